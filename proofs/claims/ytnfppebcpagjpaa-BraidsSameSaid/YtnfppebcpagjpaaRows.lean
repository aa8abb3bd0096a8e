/-
  No cell of these rows narrows 'for every input' (looked for: loops, veiled, ifaces, maps, wideKeys, modest, calm, conditions, laid).
  DERIVED. THE GIVEN ROWS OF THIS SEAT. 10 by the template 'for every input the law returns true; each argument reads behind the call as it read before'; 0 by the template 'total and deterministic' (their statements: YtnfppebcpagjpaaTotals.lean).
  GIVEN WITH THE SEED: the statements are not yours to turn. If you find one false, say at which input.
  Laid BY PROGRAM, IN A SANDBOX (cutbox-rows.mjs): the forced cells as the released guide's own fill.sh prints them over the translation 824ab0ed55486d01… (all of the seat's roots in one cut). By AI agents, Wed Nov 11 2026. No macro, syntax, notation, axiom, sorry.
-/
import Derived.Test.YtnfppebcpagjpaaChecked
import GoSem.Claim
import GoSem.ClaimJoined
import GoSem.ClaimMapViews
import Derived.JoinedTies
import Derived.KernelRfl
namespace Go.Proofs.Ytnfppebcpagjpaa
/- THE CELL 'sum', in the pinned program and in every row, IS THE sha256 OF THE DUMP (.gsa) THAT YtnfppebcpagjpaaProg.lean LOADS. Nothing in Lean hashes anything: it is a label: what it is worth is what the hold of that sum in a sandbox is worth. -/
noncomputable def Try.pinned : Pinned := { name := "ytnfppebcpagjpaa", sum := "824ab0ed55486d01f6ad2b6485cb8baff142ff3682591b9cee67615fb0da1e79", checked := Try.checked }
namespace Rows
def none {H : Type} : Left H := { results := [], args := [] }

/-- 'torchonlaw02.BraidsWords': WHATEVER THE INPUT: true; the input reads as it did. -/
def braidsWordsSpec : ChangeSpec := { name := "braidsWords", fn := fun _ => fun
  | [d1, d2, d3] => { results := [.lit (.bool true)], args := [d1, d2, d3] }
  | _ => none }
def braidsWordsRow : OpenClaim := { program := "ytnfppebcpagjpaa", sum := "824ab0ed55486d01f6ad2b6485cb8baff142ff3682591b9cee67615fb0da1e79", func := "torchon/torchonlaw02.BraidsWords", spec := "braidsWords", unfollowed := true, recurses := true, apart := false }
def BraidsWordsSaid : Prop := braidsWordsRow.holds Try.pinned (OpenSpec.ofChange braidsWordsSpec)

/-- ITS FALSE NEIGHBOUR: 'it returns false'. Refute it at one input. -/
def braidsWordsWrong : ChangeSpec := { name := "braidsWords", fn := fun _ => fun
  | [d1, d2, d3] => { results := [.lit (.bool false)], args := [d1, d2, d3] }
  | _ => none }
def BraidsWordsWrongFalsely : Prop := braidsWordsRow.holds Try.pinned (OpenSpec.ofChange braidsWordsWrong)

/-- 'torchonlaw02.BraidsPerms': WHATEVER THE INPUT: true; the input reads as it did. -/
def braidsPermsSpec : ChangeSpec := { name := "braidsPerms", fn := fun _ => fun
  | [d1, d2, d3] => { results := [.lit (.bool true)], args := [d1, d2, d3] }
  | _ => none }
def braidsPermsRow : OpenClaim := { program := "ytnfppebcpagjpaa", sum := "824ab0ed55486d01f6ad2b6485cb8baff142ff3682591b9cee67615fb0da1e79", func := "torchon/torchonlaw02.BraidsPerms", spec := "braidsPerms", apart := false }
def BraidsPermsSaid : Prop := braidsPermsRow.holds Try.pinned (OpenSpec.ofChange braidsPermsSpec)

/-- ITS FALSE NEIGHBOUR: 'it returns false'. Refute it at one input. -/
def braidsPermsWrong : ChangeSpec := { name := "braidsPerms", fn := fun _ => fun
  | [d1, d2, d3] => { results := [.lit (.bool false)], args := [d1, d2, d3] }
  | _ => none }
def BraidsPermsWrongFalsely : Prop := braidsPermsRow.holds Try.pinned (OpenSpec.ofChange braidsPermsWrong)

/-- 'torchonlaw02.BraidsForms': WHATEVER THE INPUT: true; the input reads as it did. -/
def braidsFormsSpec : ChangeSpec := { name := "braidsForms", fn := fun _ => fun
  | [d1, d2, d3] => { results := [.lit (.bool true)], args := [d1, d2, d3] }
  | _ => none }
def braidsFormsRow : OpenClaim := { program := "ytnfppebcpagjpaa", sum := "824ab0ed55486d01f6ad2b6485cb8baff142ff3682591b9cee67615fb0da1e79", func := "torchon/torchonlaw02.BraidsForms", spec := "braidsForms", unfollowed := true, recurses := true, apart := false }
def BraidsFormsSaid : Prop := braidsFormsRow.holds Try.pinned (OpenSpec.ofChange braidsFormsSpec)

/-- ITS FALSE NEIGHBOUR: 'it returns false'. Refute it at one input. -/
def braidsFormsWrong : ChangeSpec := { name := "braidsForms", fn := fun _ => fun
  | [d1, d2, d3] => { results := [.lit (.bool false)], args := [d1, d2, d3] }
  | _ => none }
def BraidsFormsWrongFalsely : Prop := braidsFormsRow.holds Try.pinned (OpenSpec.ofChange braidsFormsWrong)

/-- 'torchonlaw02.BraidsSame': WHATEVER THE INPUT: true; the input reads as it did. -/
def braidsSameSpec : ChangeSpec := { name := "braidsSame", fn := fun _ => fun
  | [d1, d2, d3] => { results := [.lit (.bool true)], args := [d1, d2, d3] }
  | _ => none }
def braidsSameRow : OpenClaim := { program := "ytnfppebcpagjpaa", sum := "824ab0ed55486d01f6ad2b6485cb8baff142ff3682591b9cee67615fb0da1e79", func := "torchon/torchonlaw02.BraidsSame", spec := "braidsSame", apart := false }
def BraidsSameSaid : Prop := braidsSameRow.holds Try.pinned (OpenSpec.ofChange braidsSameSpec)

/-- ITS FALSE NEIGHBOUR: 'it returns false'. Refute it at one input. -/
def braidsSameWrong : ChangeSpec := { name := "braidsSame", fn := fun _ => fun
  | [d1, d2, d3] => { results := [.lit (.bool false)], args := [d1, d2, d3] }
  | _ => none }
def BraidsSameWrongFalsely : Prop := braidsSameRow.holds Try.pinned (OpenSpec.ofChange braidsSameWrong)

/-- 'torchonlaw02.BraidsAct': WHATEVER THE INPUT: true; the input reads as it did. -/
def braidsActSpec : ChangeSpec := { name := "braidsAct", fn := fun _ => fun
  | [d1, d2, d3] => { results := [.lit (.bool true)], args := [d1, d2, d3] }
  | _ => none }
def braidsActRow : OpenClaim := { program := "ytnfppebcpagjpaa", sum := "824ab0ed55486d01f6ad2b6485cb8baff142ff3682591b9cee67615fb0da1e79", func := "torchon/torchonlaw02.BraidsAct", spec := "braidsAct", apart := false }
def BraidsActSaid : Prop := braidsActRow.holds Try.pinned (OpenSpec.ofChange braidsActSpec)

/-- ITS FALSE NEIGHBOUR: 'it returns false'. Refute it at one input. -/
def braidsActWrong : ChangeSpec := { name := "braidsAct", fn := fun _ => fun
  | [d1, d2, d3] => { results := [.lit (.bool false)], args := [d1, d2, d3] }
  | _ => none }
def BraidsActWrongFalsely : Prop := braidsActRow.holds Try.pinned (OpenSpec.ofChange braidsActWrong)

/-- 'torchonlaw02.BraidsWeighted': WHATEVER THE INPUT: true; the input reads as it did. -/
def braidsWeightedSpec : ChangeSpec := { name := "braidsWeighted", fn := fun _ => fun
  | [d1, d2] => { results := [.lit (.bool true)], args := [d1, d2] }
  | _ => none }
def braidsWeightedRow : OpenClaim := { program := "ytnfppebcpagjpaa", sum := "824ab0ed55486d01f6ad2b6485cb8baff142ff3682591b9cee67615fb0da1e79", func := "torchon/torchonlaw02.BraidsWeighted", spec := "braidsWeighted", unfollowed := true, recurses := true, apart := false }
def BraidsWeightedSaid : Prop := braidsWeightedRow.holds Try.pinned (OpenSpec.ofChange braidsWeightedSpec)

/-- ITS FALSE NEIGHBOUR: 'it returns false'. Refute it at one input. -/
def braidsWeightedWrong : ChangeSpec := { name := "braidsWeighted", fn := fun _ => fun
  | [d1, d2] => { results := [.lit (.bool false)], args := [d1, d2] }
  | _ => none }
def BraidsWeightedWrongFalsely : Prop := braidsWeightedRow.holds Try.pinned (OpenSpec.ofChange braidsWeightedWrong)

/-- 'torchonlaw02.BraidsChanges': WHATEVER THE INPUT: true; the input reads as it did. -/
def braidsChangesSpec : ChangeSpec := { name := "braidsChanges", fn := fun _ => fun
  | [d1, d2, d3] => { results := [.lit (.bool true)], args := [d1, d2, d3] }
  | _ => none }
def braidsChangesRow : OpenClaim := { program := "ytnfppebcpagjpaa", sum := "824ab0ed55486d01f6ad2b6485cb8baff142ff3682591b9cee67615fb0da1e79", func := "torchon/torchonlaw02.BraidsChanges", spec := "braidsChanges", apart := false }
def BraidsChangesSaid : Prop := braidsChangesRow.holds Try.pinned (OpenSpec.ofChange braidsChangesSpec)

/-- ITS FALSE NEIGHBOUR: 'it returns false'. Refute it at one input. -/
def braidsChangesWrong : ChangeSpec := { name := "braidsChanges", fn := fun _ => fun
  | [d1, d2, d3] => { results := [.lit (.bool false)], args := [d1, d2, d3] }
  | _ => none }
def BraidsChangesWrongFalsely : Prop := braidsChangesRow.holds Try.pinned (OpenSpec.ofChange braidsChangesWrong)

/-- 'torchonlaw02.BraidsGroup': WHATEVER THE INPUT: true; the input reads as it did. -/
def braidsGroupSpec : ChangeSpec := { name := "braidsGroup", fn := fun _ => fun
  | [d1, d2, d3] => { results := [.lit (.bool true)], args := [d1, d2, d3] }
  | _ => none }
def braidsGroupRow : OpenClaim := { program := "ytnfppebcpagjpaa", sum := "824ab0ed55486d01f6ad2b6485cb8baff142ff3682591b9cee67615fb0da1e79", func := "torchon/torchonlaw02.BraidsGroup", spec := "braidsGroup", unfollowed := true, recurses := true, apart := false }
def BraidsGroupSaid : Prop := braidsGroupRow.holds Try.pinned (OpenSpec.ofChange braidsGroupSpec)

/-- ITS FALSE NEIGHBOUR: 'it returns false'. Refute it at one input. -/
def braidsGroupWrong : ChangeSpec := { name := "braidsGroup", fn := fun _ => fun
  | [d1, d2, d3] => { results := [.lit (.bool false)], args := [d1, d2, d3] }
  | _ => none }
def BraidsGroupWrongFalsely : Prop := braidsGroupRow.holds Try.pinned (OpenSpec.ofChange braidsGroupWrong)

/-- 'torchonlaw02.BraidsKnown': WHATEVER THE INPUT: true; the input reads as it did. -/
def braidsKnownSpec : ChangeSpec := { name := "braidsKnown", fn := fun _ => fun
  | [] => { results := [.lit (.bool true)], args := [] }
  | _ => none }
def braidsKnownRow : OpenClaim := { program := "ytnfppebcpagjpaa", sum := "824ab0ed55486d01f6ad2b6485cb8baff142ff3682591b9cee67615fb0da1e79", func := "torchon/torchonlaw02.BraidsKnown", spec := "braidsKnown", unfollowed := true, recurses := true, apart := false }
def BraidsKnownSaid : Prop := braidsKnownRow.holds Try.pinned (OpenSpec.ofChange braidsKnownSpec)

/-- ITS FALSE NEIGHBOUR: 'it returns false'. Refute it at one input. -/
def braidsKnownWrong : ChangeSpec := { name := "braidsKnown", fn := fun _ => fun
  | [] => { results := [.lit (.bool false)], args := [] }
  | _ => none }
def BraidsKnownWrongFalsely : Prop := braidsKnownRow.holds Try.pinned (OpenSpec.ofChange braidsKnownWrong)

/-- 'torchonlaw02.BraidsTurns': WHATEVER THE INPUT: true; the input reads as it did. -/
def braidsTurnsSpec : ChangeSpec := { name := "braidsTurns", fn := fun _ => fun
  | [d1, d2, d3] => { results := [.lit (.bool true)], args := [d1, d2, d3] }
  | _ => none }
def braidsTurnsRow : OpenClaim := { program := "ytnfppebcpagjpaa", sum := "824ab0ed55486d01f6ad2b6485cb8baff142ff3682591b9cee67615fb0da1e79", func := "torchon/torchonlaw02.BraidsTurns", spec := "braidsTurns", apart := false }
def BraidsTurnsSaid : Prop := braidsTurnsRow.holds Try.pinned (OpenSpec.ofChange braidsTurnsSpec)

/-- ITS FALSE NEIGHBOUR: 'it returns false'. Refute it at one input. -/
def braidsTurnsWrong : ChangeSpec := { name := "braidsTurns", fn := fun _ => fun
  | [d1, d2, d3] => { results := [.lit (.bool false)], args := [d1, d2, d3] }
  | _ => none }
def BraidsTurnsWrongFalsely : Prop := braidsTurnsRow.holds Try.pinned (OpenSpec.ofChange braidsTurnsWrong)

/- THE SECOND FORM. 'bulk': how many values and letters a reading holds, each counted each time it is reached (what is shared counts as often as it is met; a slice's spare places count too). A statement '..UptoSaid' is the law's where the arguments, and the package variables that the reading takes, are together of bulk at most 1048576: NARROWER than '..Said'. Prove '..Said' where nothing that the law and all that it calls make is longer than what came in: it says more and counts as full. Else prove '..UptoSaid'. A law counts once. -/
mutual
def uptoBulk {H : Type} : DataW H → Nat
  | .lit (.string bytes) => bytes.length + 1
  | .lit _ => 1
  | .nil => 1
  | .ptr d => uptoBulk d + 1
  | .slice elems spare => uptoBulkAll elems + uptoBulkAll spare + 1
  | .agg parts => uptoBulkAll parts + 1
  | .iface _ d => uptoBulk d + 1
  | .map entries => uptoBulkEntries entries + 1
  | .held _ => 1
def uptoBulkAll {H : Type} : List (DataW H) → Nat
  | [] => 0
  | d :: r => uptoBulk d + uptoBulkAll r
def uptoBulkEntries {H : Type} : List (Lit × DataW H) → Nat
  | [] => 0
  | x :: r => uptoBulkEntry x + uptoBulkEntries r
def uptoBulkEntry {H : Type} : Lit × DataW H → Nat
  | (.string bytes, d) => bytes.length + uptoBulk d + 1
  | (_, d) => uptoBulk d + 1
 end
def uptoSmall : (H : Type) → List (DataW H) → Bool := fun _ ds => decide (uptoBulkAll ds ≤ 1048576)
def OpenSpec.upto (s : _root_.Go.ChangeSpec) : _root_.Go.OpenSpec := { _root_.Go.OpenSpec.ofChange s with cond := some uptoSmall }

/-- 'torchonlaw02.BraidsWords', WHERE WHAT IT READS IS OF BULK AT MOST 1048576: true; the input reads as it did. -/
def braidsWordsUptoRow : OpenClaim := { program := "ytnfppebcpagjpaa", sum := "824ab0ed55486d01f6ad2b6485cb8baff142ff3682591b9cee67615fb0da1e79", func := "torchon/torchonlaw02.BraidsWords", spec := "braidsWords", unfollowed := true, recurses := true, apart := false, narrowed := true }
def BraidsWordsUptoSaid : Prop := braidsWordsUptoRow.holds Try.pinned (OpenSpec.upto braidsWordsSpec)

/-- 'torchonlaw02.BraidsPerms', WHERE WHAT IT READS IS OF BULK AT MOST 1048576: true; the input reads as it did. -/
def braidsPermsUptoRow : OpenClaim := { program := "ytnfppebcpagjpaa", sum := "824ab0ed55486d01f6ad2b6485cb8baff142ff3682591b9cee67615fb0da1e79", func := "torchon/torchonlaw02.BraidsPerms", spec := "braidsPerms", apart := false, narrowed := true }
def BraidsPermsUptoSaid : Prop := braidsPermsUptoRow.holds Try.pinned (OpenSpec.upto braidsPermsSpec)

/-- 'torchonlaw02.BraidsForms', WHERE WHAT IT READS IS OF BULK AT MOST 1048576: true; the input reads as it did. -/
def braidsFormsUptoRow : OpenClaim := { program := "ytnfppebcpagjpaa", sum := "824ab0ed55486d01f6ad2b6485cb8baff142ff3682591b9cee67615fb0da1e79", func := "torchon/torchonlaw02.BraidsForms", spec := "braidsForms", unfollowed := true, recurses := true, apart := false, narrowed := true }
def BraidsFormsUptoSaid : Prop := braidsFormsUptoRow.holds Try.pinned (OpenSpec.upto braidsFormsSpec)

/-- 'torchonlaw02.BraidsSame', WHERE WHAT IT READS IS OF BULK AT MOST 1048576: true; the input reads as it did. -/
def braidsSameUptoRow : OpenClaim := { program := "ytnfppebcpagjpaa", sum := "824ab0ed55486d01f6ad2b6485cb8baff142ff3682591b9cee67615fb0da1e79", func := "torchon/torchonlaw02.BraidsSame", spec := "braidsSame", apart := false, narrowed := true }
def BraidsSameUptoSaid : Prop := braidsSameUptoRow.holds Try.pinned (OpenSpec.upto braidsSameSpec)

/-- 'torchonlaw02.BraidsAct', WHERE WHAT IT READS IS OF BULK AT MOST 1048576: true; the input reads as it did. -/
def braidsActUptoRow : OpenClaim := { program := "ytnfppebcpagjpaa", sum := "824ab0ed55486d01f6ad2b6485cb8baff142ff3682591b9cee67615fb0da1e79", func := "torchon/torchonlaw02.BraidsAct", spec := "braidsAct", apart := false, narrowed := true }
def BraidsActUptoSaid : Prop := braidsActUptoRow.holds Try.pinned (OpenSpec.upto braidsActSpec)

/-- 'torchonlaw02.BraidsWeighted', WHERE WHAT IT READS IS OF BULK AT MOST 1048576: true; the input reads as it did. -/
def braidsWeightedUptoRow : OpenClaim := { program := "ytnfppebcpagjpaa", sum := "824ab0ed55486d01f6ad2b6485cb8baff142ff3682591b9cee67615fb0da1e79", func := "torchon/torchonlaw02.BraidsWeighted", spec := "braidsWeighted", unfollowed := true, recurses := true, apart := false, narrowed := true }
def BraidsWeightedUptoSaid : Prop := braidsWeightedUptoRow.holds Try.pinned (OpenSpec.upto braidsWeightedSpec)

/-- 'torchonlaw02.BraidsChanges', WHERE WHAT IT READS IS OF BULK AT MOST 1048576: true; the input reads as it did. -/
def braidsChangesUptoRow : OpenClaim := { program := "ytnfppebcpagjpaa", sum := "824ab0ed55486d01f6ad2b6485cb8baff142ff3682591b9cee67615fb0da1e79", func := "torchon/torchonlaw02.BraidsChanges", spec := "braidsChanges", apart := false, narrowed := true }
def BraidsChangesUptoSaid : Prop := braidsChangesUptoRow.holds Try.pinned (OpenSpec.upto braidsChangesSpec)

/-- 'torchonlaw02.BraidsGroup', WHERE WHAT IT READS IS OF BULK AT MOST 1048576: true; the input reads as it did. -/
def braidsGroupUptoRow : OpenClaim := { program := "ytnfppebcpagjpaa", sum := "824ab0ed55486d01f6ad2b6485cb8baff142ff3682591b9cee67615fb0da1e79", func := "torchon/torchonlaw02.BraidsGroup", spec := "braidsGroup", unfollowed := true, recurses := true, apart := false, narrowed := true }
def BraidsGroupUptoSaid : Prop := braidsGroupUptoRow.holds Try.pinned (OpenSpec.upto braidsGroupSpec)

/-- 'torchonlaw02.BraidsKnown', WHERE WHAT IT READS IS OF BULK AT MOST 1048576: true; the input reads as it did. -/
def braidsKnownUptoRow : OpenClaim := { program := "ytnfppebcpagjpaa", sum := "824ab0ed55486d01f6ad2b6485cb8baff142ff3682591b9cee67615fb0da1e79", func := "torchon/torchonlaw02.BraidsKnown", spec := "braidsKnown", unfollowed := true, recurses := true, apart := false, narrowed := true }
def BraidsKnownUptoSaid : Prop := braidsKnownUptoRow.holds Try.pinned (OpenSpec.upto braidsKnownSpec)

/-- 'torchonlaw02.BraidsTurns', WHERE WHAT IT READS IS OF BULK AT MOST 1048576: true; the input reads as it did. -/
def braidsTurnsUptoRow : OpenClaim := { program := "ytnfppebcpagjpaa", sum := "824ab0ed55486d01f6ad2b6485cb8baff142ff3682591b9cee67615fb0da1e79", func := "torchon/torchonlaw02.BraidsTurns", spec := "braidsTurns", apart := false, narrowed := true }
def BraidsTurnsUptoSaid : Prop := braidsTurnsUptoRow.holds Try.pinned (OpenSpec.upto braidsTurnsSpec)

end Rows
end Go.Proofs.Ytnfppebcpagjpaa
