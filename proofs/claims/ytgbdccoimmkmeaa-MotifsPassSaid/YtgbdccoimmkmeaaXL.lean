/- What the rows want of the program. -/
import Derived.Test.YtgbdccoimmkmeaaRows
import Derived.ProofKit
import Derived.OpenShut
import Derived.Carry
import Derived.Laws.Cover1
namespace Go.Proofs.Ytgbdccoimmkmeaa
open Go.ChangeShapes Go.WideShapes Go.ChangeAt Go.RowKit

theorem own : ownKnob Try.prog.godebug = none := by kernel_rfl
theorem laidOut0 : laidOutB Try.prog = true := by kernel_rfl
end Go.Proofs.Ytgbdccoimmkmeaa
