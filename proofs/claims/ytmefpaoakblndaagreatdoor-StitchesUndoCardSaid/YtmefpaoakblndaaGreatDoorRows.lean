/-
  NARROWER THAN 'FOR EVERY INPUT', by the rows' own cells (each row's printed sentence says how): StitchesMoves: laid · StitchesReduce: laid · StitchesNames: laid · StitchesUndo: laid · StitchesSides: laid · StitchesKeep: laid.
  DERIVED. THE GIVEN ROWS OF THIS SEAT. 6 by the template 'for every input the law returns true; each argument reads behind the call as it read before'; 0 by the template 'total and deterministic' (their statements: YtmefpaoakblndaaGreatDoorTotals.lean).
  GIVEN WITH THE SEED: the statements are not yours to turn. If you find one false, say at which input.
  Laid BY PROGRAM, IN A SANDBOX (cutbox-rows.mjs): the forced cells as the released guide's own fill.sh prints them over the translation 04eb005151b04437… (all of the seat's roots in one cut). By AI agents, Wed Nov 11 2026. No macro, syntax, notation, axiom, sorry.
-/
import Derived.Test.YtmefpaoakblndaaGreatDoorChecked
import GoSem.PinnedTables
import GoSem.Claim
import GoSem.ClaimJoined
import GoSem.ClaimMapViews
import Derived.JoinedTies
import Derived.KernelRfl
namespace Go.Proofs.YtmefpaoakblndaaGreatDoor
/- THE CELL 'sum', in the pinned program and in every row, IS THE sha256 OF THE DUMP (.gsa) THAT YtmefpaoakblndaaGreatDoorProg.lean LOADS. Nothing in Lean hashes anything: it is a label: what it is worth is what the hold of that sum in a sandbox is worth. -/
noncomputable def Tryz.pinned : Pinned := { name := "ytmefpaoakblndaagreatdoor", sum := "04eb005151b044371022b5a67fe02c26c13bc525de6eed82631900b57367e63a", checked := Tryz.checked }
namespace Rows
def none {H : Type} : Left H := { results := [], args := [] }

/- WHAT THE LISTED PACKAGE-LEVEL VARIABLES READ AS WHEN THE CALL BEGINS. Each datum BY PROGRAM (the guide's laid-datum.mjs) off the statement by which the dump's own 'gosem.cut.vars' lays the variable. In a bare row this is a premise. The card (YtmefpaoakblndaaGreatDoorCards.lean) ties it to the program's text. -/
def laid_unicode_utf8_acceptRanges {H : Type} : DataW H := .agg [.agg [.lit (.int .u8 128), .lit (.int .u8 191)], .agg [.lit (.int .u8 160), .lit (.int .u8 191)], .agg [.lit (.int .u8 128), .lit (.int .u8 159)], .agg [.lit (.int .u8 144), .lit (.int .u8 191)], .agg [.lit (.int .u8 128), .lit (.int .u8 143)], .agg [.lit (.int .u8 0), .lit (.int .u8 0)], .agg [.lit (.int .u8 0), .lit (.int .u8 0)], .agg [.lit (.int .u8 0), .lit (.int .u8 0)], .agg [.lit (.int .u8 0), .lit (.int .u8 0)], .agg [.lit (.int .u8 0), .lit (.int .u8 0)], .agg [.lit (.int .u8 0), .lit (.int .u8 0)], .agg [.lit (.int .u8 0), .lit (.int .u8 0)], .agg [.lit (.int .u8 0), .lit (.int .u8 0)], .agg [.lit (.int .u8 0), .lit (.int .u8 0)], .agg [.lit (.int .u8 0), .lit (.int .u8 0)], .agg [.lit (.int .u8 0), .lit (.int .u8 0)]]
def laid_torchon_stitches_usual {H : Type} : DataW H := .agg [.agg [.lit (.string [104, 97, 108, 102]), .lit (.string [67, 84])], .agg [.lit (.string [99, 108, 111, 116, 104]), .lit (.string [67, 84, 67])], .agg [.lit (.string [119, 104, 111, 108, 101]), .lit (.string [67, 84, 67, 84])], .agg [.lit (.string [104, 97, 108, 102, 112, 105, 110]), .lit (.string [67, 84, 80, 67, 84])], .agg [.lit (.string [99, 108, 111, 116, 104, 112, 105, 110]), .lit (.string [67, 84, 67, 80, 67, 84, 67])], .agg [.lit (.string [119, 104, 111, 108, 101, 112, 105, 110]), .lit (.string [67, 84, 67, 84, 80, 67, 84, 67, 84])], .agg [.lit (.string [116, 119, 105, 115, 116]), .lit (.string [84])], .agg [.lit (.string [110, 111, 110, 101]), .lit (.string [])]]
/-- One of Go's own tables, pinned by name: the form's constant. -/
def laid_unicode_utf8_first : DataW Unit := Go.Pinned.utf8First

/-- 'torchonlaw03.StitchesMoves': WHATEVER THE INPUT: true; the input reads as it did. -/
def stitchesMovesSpec : ChangeSpec := { name := "stitchesMoves", fn := fun _ => fun
  | [d] => { results := [.lit (.bool true)], args := [d] }
  | _ => none }
def stitchesMovesRow : OpenClaim := { program := "ytmefpaoakblndaagreatdoor", sum := "04eb005151b044371022b5a67fe02c26c13bc525de6eed82631900b57367e63a", func := "torchon/torchonlaw03.StitchesMoves", spec := "stitchesMoves", inPlace := ["internal/bytealg.IndexByteString", "internal/bytealg.CountString", "internal/bytealg.IndexString", "internal/abi.NoEscape", "internal/bytealg.MakeNoZero"], unfollowed := true, recurses := true, named := ["unicode/utf8.first", "unicode/utf8.acceptRanges", "internal/bytealg.MaxLen", "torchon/stitches.usual"], apart := false, laid := [("unicode/utf8.acceptRanges", laid_unicode_utf8_acceptRanges), ("torchon/stitches.usual", laid_torchon_stitches_usual), ("unicode/utf8.first", laid_unicode_utf8_first)] }
def StitchesMovesSaid : Prop := stitchesMovesRow.holds Tryz.pinned (OpenSpec.ofChange stitchesMovesSpec)

/-- ITS FALSE NEIGHBOUR: 'it returns false'. Refute it at one input. -/
def stitchesMovesWrong : ChangeSpec := { name := "stitchesMoves", fn := fun _ => fun
  | [d] => { results := [.lit (.bool false)], args := [d] }
  | _ => none }
def StitchesMovesWrongFalsely : Prop := stitchesMovesRow.holds Tryz.pinned (OpenSpec.ofChange stitchesMovesWrong)

/-- 'torchonlaw03.StitchesReduce': WHATEVER THE INPUT: true; the input reads as it did. -/
def stitchesReduceSpec : ChangeSpec := { name := "stitchesReduce", fn := fun _ => fun
  | [d1, d2] => { results := [.lit (.bool true)], args := [d1, d2] }
  | _ => none }
def stitchesReduceRow : OpenClaim := { program := "ytmefpaoakblndaagreatdoor", sum := "04eb005151b044371022b5a67fe02c26c13bc525de6eed82631900b57367e63a", func := "torchon/torchonlaw03.StitchesReduce", spec := "stitchesReduce", inPlace := ["internal/bytealg.IndexByteString", "internal/bytealg.CountString", "internal/bytealg.IndexString", "internal/abi.NoEscape", "internal/bytealg.MakeNoZero"], unfollowed := true, recurses := true, named := ["unicode/utf8.first", "unicode/utf8.acceptRanges", "internal/bytealg.MaxLen", "torchon/stitches.usual"], apart := false, laid := [("unicode/utf8.acceptRanges", laid_unicode_utf8_acceptRanges), ("torchon/stitches.usual", laid_torchon_stitches_usual), ("unicode/utf8.first", laid_unicode_utf8_first)] }
def StitchesReduceSaid : Prop := stitchesReduceRow.holds Tryz.pinned (OpenSpec.ofChange stitchesReduceSpec)

/-- ITS FALSE NEIGHBOUR: 'it returns false'. Refute it at one input. -/
def stitchesReduceWrong : ChangeSpec := { name := "stitchesReduce", fn := fun _ => fun
  | [d1, d2] => { results := [.lit (.bool false)], args := [d1, d2] }
  | _ => none }
def StitchesReduceWrongFalsely : Prop := stitchesReduceRow.holds Tryz.pinned (OpenSpec.ofChange stitchesReduceWrong)

/-- 'torchonlaw03.StitchesNames': WHATEVER THE INPUT: true; the input reads as it did. -/
def stitchesNamesSpec : ChangeSpec := { name := "stitchesNames", fn := fun _ => fun
  | [d] => { results := [.lit (.bool true)], args := [d] }
  | _ => none }
def stitchesNamesRow : OpenClaim := { program := "ytmefpaoakblndaagreatdoor", sum := "04eb005151b044371022b5a67fe02c26c13bc525de6eed82631900b57367e63a", func := "torchon/torchonlaw03.StitchesNames", spec := "stitchesNames", inPlace := ["internal/bytealg.IndexByteString", "internal/bytealg.CountString", "internal/bytealg.IndexString", "internal/abi.NoEscape", "internal/bytealg.MakeNoZero"], unfollowed := true, recurses := true, named := ["unicode/utf8.first", "unicode/utf8.acceptRanges", "internal/bytealg.MaxLen", "torchon/stitches.usual"], apart := false, laid := [("unicode/utf8.acceptRanges", laid_unicode_utf8_acceptRanges), ("torchon/stitches.usual", laid_torchon_stitches_usual), ("unicode/utf8.first", laid_unicode_utf8_first)] }
def StitchesNamesSaid : Prop := stitchesNamesRow.holds Tryz.pinned (OpenSpec.ofChange stitchesNamesSpec)

/-- ITS FALSE NEIGHBOUR: 'it returns false'. Refute it at one input. -/
def stitchesNamesWrong : ChangeSpec := { name := "stitchesNames", fn := fun _ => fun
  | [d] => { results := [.lit (.bool false)], args := [d] }
  | _ => none }
def StitchesNamesWrongFalsely : Prop := stitchesNamesRow.holds Tryz.pinned (OpenSpec.ofChange stitchesNamesWrong)

/-- 'torchonlaw03.StitchesUndo': WHATEVER THE INPUT: true; the input reads as it did. -/
def stitchesUndoSpec : ChangeSpec := { name := "stitchesUndo", fn := fun _ => fun
  | [d] => { results := [.lit (.bool true)], args := [d] }
  | _ => none }
def stitchesUndoRow : OpenClaim := { program := "ytmefpaoakblndaagreatdoor", sum := "04eb005151b044371022b5a67fe02c26c13bc525de6eed82631900b57367e63a", func := "torchon/torchonlaw03.StitchesUndo", spec := "stitchesUndo", inPlace := ["internal/bytealg.IndexByteString", "internal/bytealg.CountString", "internal/bytealg.IndexString", "internal/abi.NoEscape", "internal/bytealg.MakeNoZero"], unfollowed := true, recurses := true, named := ["unicode/utf8.first", "unicode/utf8.acceptRanges", "internal/bytealg.MaxLen", "torchon/stitches.usual"], apart := false, laid := [("unicode/utf8.acceptRanges", laid_unicode_utf8_acceptRanges), ("torchon/stitches.usual", laid_torchon_stitches_usual), ("unicode/utf8.first", laid_unicode_utf8_first)] }
def StitchesUndoSaid : Prop := stitchesUndoRow.holds Tryz.pinned (OpenSpec.ofChange stitchesUndoSpec)

/-- ITS FALSE NEIGHBOUR: 'it returns false'. Refute it at one input. -/
def stitchesUndoWrong : ChangeSpec := { name := "stitchesUndo", fn := fun _ => fun
  | [d] => { results := [.lit (.bool false)], args := [d] }
  | _ => none }
def StitchesUndoWrongFalsely : Prop := stitchesUndoRow.holds Tryz.pinned (OpenSpec.ofChange stitchesUndoWrong)

/-- 'torchonlaw03.StitchesSides': WHATEVER THE INPUT: true; the input reads as it did. -/
def stitchesSidesSpec : ChangeSpec := { name := "stitchesSides", fn := fun _ => fun
  | [d1, d2] => { results := [.lit (.bool true)], args := [d1, d2] }
  | _ => none }
def stitchesSidesRow : OpenClaim := { program := "ytmefpaoakblndaagreatdoor", sum := "04eb005151b044371022b5a67fe02c26c13bc525de6eed82631900b57367e63a", func := "torchon/torchonlaw03.StitchesSides", spec := "stitchesSides", inPlace := ["internal/bytealg.IndexByteString", "internal/bytealg.CountString", "internal/bytealg.IndexString", "internal/abi.NoEscape", "internal/bytealg.MakeNoZero"], unfollowed := true, recurses := true, named := ["unicode/utf8.first", "unicode/utf8.acceptRanges", "internal/bytealg.MaxLen", "torchon/stitches.usual"], apart := false, laid := [("unicode/utf8.acceptRanges", laid_unicode_utf8_acceptRanges), ("torchon/stitches.usual", laid_torchon_stitches_usual), ("unicode/utf8.first", laid_unicode_utf8_first)] }
def StitchesSidesSaid : Prop := stitchesSidesRow.holds Tryz.pinned (OpenSpec.ofChange stitchesSidesSpec)

/-- ITS FALSE NEIGHBOUR: 'it returns false'. Refute it at one input. -/
def stitchesSidesWrong : ChangeSpec := { name := "stitchesSides", fn := fun _ => fun
  | [d1, d2] => { results := [.lit (.bool false)], args := [d1, d2] }
  | _ => none }
def StitchesSidesWrongFalsely : Prop := stitchesSidesRow.holds Tryz.pinned (OpenSpec.ofChange stitchesSidesWrong)

/-- 'torchonlaw03.StitchesKeep': WHATEVER THE INPUT: true; the input reads as it did. -/
def stitchesKeepSpec : ChangeSpec := { name := "stitchesKeep", fn := fun _ => fun
  | [d1, d2] => { results := [.lit (.bool true)], args := [d1, d2] }
  | _ => none }
def stitchesKeepRow : OpenClaim := { program := "ytmefpaoakblndaagreatdoor", sum := "04eb005151b044371022b5a67fe02c26c13bc525de6eed82631900b57367e63a", func := "torchon/torchonlaw03.StitchesKeep", spec := "stitchesKeep", inPlace := ["internal/bytealg.IndexByteString", "internal/bytealg.CountString", "internal/bytealg.IndexString", "internal/abi.NoEscape", "internal/bytealg.MakeNoZero"], unfollowed := true, recurses := true, named := ["unicode/utf8.first", "unicode/utf8.acceptRanges", "internal/bytealg.MaxLen", "torchon/stitches.usual"], apart := false, laid := [("unicode/utf8.acceptRanges", laid_unicode_utf8_acceptRanges), ("torchon/stitches.usual", laid_torchon_stitches_usual), ("unicode/utf8.first", laid_unicode_utf8_first)] }
def StitchesKeepSaid : Prop := stitchesKeepRow.holds Tryz.pinned (OpenSpec.ofChange stitchesKeepSpec)

/-- ITS FALSE NEIGHBOUR: 'it returns false'. Refute it at one input. -/
def stitchesKeepWrong : ChangeSpec := { name := "stitchesKeep", fn := fun _ => fun
  | [d1, d2] => { results := [.lit (.bool false)], args := [d1, d2] }
  | _ => none }
def StitchesKeepWrongFalsely : Prop := stitchesKeepRow.holds Tryz.pinned (OpenSpec.ofChange stitchesKeepWrong)

/- THE SECOND FORM. 'bulk': how many values and letters a reading holds, each counted each time it is reached (what is shared counts as often as it is met; a slice's spare places count too). A statement '..UptoSaid' is the law's where the arguments, and the package variables that the reading takes, are together of bulk at most 1048576: NARROWER than '..Said'. Prove '..Said' where nothing that the law and all that it calls make is longer than what came in: it says more and counts as full. Else prove '..UptoSaid'. A law counts once. -/
mutual
def uptoBulk {H : Type} : DataW H → Nat
  | .lit (.string bytes) => bytes.length + 1
  | .lit _ => 1
  | .nil => 1
  | .ptr d => uptoBulk d + 1
  | .slice elems spare => uptoBulkAll elems + uptoBulkAll spare + 1
  | .agg parts => uptoBulkAll parts + 1
  | .iface _ d => uptoBulk d + 1
  | .map entries => uptoBulkEntries entries + 1
  | .held _ => 1
def uptoBulkAll {H : Type} : List (DataW H) → Nat
  | [] => 0
  | d :: r => uptoBulk d + uptoBulkAll r
def uptoBulkEntries {H : Type} : List (Lit × DataW H) → Nat
  | [] => 0
  | x :: r => uptoBulkEntry x + uptoBulkEntries r
def uptoBulkEntry {H : Type} : Lit × DataW H → Nat
  | (.string bytes, d) => bytes.length + uptoBulk d + 1
  | (_, d) => uptoBulk d + 1
 end
def uptoSmall : (H : Type) → List (DataW H) → Bool := fun _ ds => decide (uptoBulkAll ds ≤ 1048576)
def OpenSpec.upto (s : _root_.Go.ChangeSpec) : _root_.Go.OpenSpec := { _root_.Go.OpenSpec.ofChange s with cond := some uptoSmall }

/-- 'torchonlaw03.StitchesMoves', WHERE WHAT IT READS IS OF BULK AT MOST 1048576: true; the input reads as it did. -/
def stitchesMovesUptoRow : OpenClaim := { program := "ytmefpaoakblndaagreatdoor", sum := "04eb005151b044371022b5a67fe02c26c13bc525de6eed82631900b57367e63a", func := "torchon/torchonlaw03.StitchesMoves", spec := "stitchesMoves", inPlace := ["internal/bytealg.IndexByteString", "internal/bytealg.CountString", "internal/bytealg.IndexString", "internal/abi.NoEscape", "internal/bytealg.MakeNoZero"], unfollowed := true, recurses := true, named := ["unicode/utf8.first", "unicode/utf8.acceptRanges", "internal/bytealg.MaxLen", "torchon/stitches.usual"], apart := false, laid := [("unicode/utf8.acceptRanges", laid_unicode_utf8_acceptRanges), ("torchon/stitches.usual", laid_torchon_stitches_usual), ("unicode/utf8.first", laid_unicode_utf8_first)], narrowed := true }
def StitchesMovesUptoSaid : Prop := stitchesMovesUptoRow.holds Tryz.pinned (OpenSpec.upto stitchesMovesSpec)

/-- 'torchonlaw03.StitchesReduce', WHERE WHAT IT READS IS OF BULK AT MOST 1048576: true; the input reads as it did. -/
def stitchesReduceUptoRow : OpenClaim := { program := "ytmefpaoakblndaagreatdoor", sum := "04eb005151b044371022b5a67fe02c26c13bc525de6eed82631900b57367e63a", func := "torchon/torchonlaw03.StitchesReduce", spec := "stitchesReduce", inPlace := ["internal/bytealg.IndexByteString", "internal/bytealg.CountString", "internal/bytealg.IndexString", "internal/abi.NoEscape", "internal/bytealg.MakeNoZero"], unfollowed := true, recurses := true, named := ["unicode/utf8.first", "unicode/utf8.acceptRanges", "internal/bytealg.MaxLen", "torchon/stitches.usual"], apart := false, laid := [("unicode/utf8.acceptRanges", laid_unicode_utf8_acceptRanges), ("torchon/stitches.usual", laid_torchon_stitches_usual), ("unicode/utf8.first", laid_unicode_utf8_first)], narrowed := true }
def StitchesReduceUptoSaid : Prop := stitchesReduceUptoRow.holds Tryz.pinned (OpenSpec.upto stitchesReduceSpec)

/-- 'torchonlaw03.StitchesNames', WHERE WHAT IT READS IS OF BULK AT MOST 1048576: true; the input reads as it did. -/
def stitchesNamesUptoRow : OpenClaim := { program := "ytmefpaoakblndaagreatdoor", sum := "04eb005151b044371022b5a67fe02c26c13bc525de6eed82631900b57367e63a", func := "torchon/torchonlaw03.StitchesNames", spec := "stitchesNames", inPlace := ["internal/bytealg.IndexByteString", "internal/bytealg.CountString", "internal/bytealg.IndexString", "internal/abi.NoEscape", "internal/bytealg.MakeNoZero"], unfollowed := true, recurses := true, named := ["unicode/utf8.first", "unicode/utf8.acceptRanges", "internal/bytealg.MaxLen", "torchon/stitches.usual"], apart := false, laid := [("unicode/utf8.acceptRanges", laid_unicode_utf8_acceptRanges), ("torchon/stitches.usual", laid_torchon_stitches_usual), ("unicode/utf8.first", laid_unicode_utf8_first)], narrowed := true }
def StitchesNamesUptoSaid : Prop := stitchesNamesUptoRow.holds Tryz.pinned (OpenSpec.upto stitchesNamesSpec)

/-- 'torchonlaw03.StitchesUndo', WHERE WHAT IT READS IS OF BULK AT MOST 1048576: true; the input reads as it did. -/
def stitchesUndoUptoRow : OpenClaim := { program := "ytmefpaoakblndaagreatdoor", sum := "04eb005151b044371022b5a67fe02c26c13bc525de6eed82631900b57367e63a", func := "torchon/torchonlaw03.StitchesUndo", spec := "stitchesUndo", inPlace := ["internal/bytealg.IndexByteString", "internal/bytealg.CountString", "internal/bytealg.IndexString", "internal/abi.NoEscape", "internal/bytealg.MakeNoZero"], unfollowed := true, recurses := true, named := ["unicode/utf8.first", "unicode/utf8.acceptRanges", "internal/bytealg.MaxLen", "torchon/stitches.usual"], apart := false, laid := [("unicode/utf8.acceptRanges", laid_unicode_utf8_acceptRanges), ("torchon/stitches.usual", laid_torchon_stitches_usual), ("unicode/utf8.first", laid_unicode_utf8_first)], narrowed := true }
def StitchesUndoUptoSaid : Prop := stitchesUndoUptoRow.holds Tryz.pinned (OpenSpec.upto stitchesUndoSpec)

/-- 'torchonlaw03.StitchesSides', WHERE WHAT IT READS IS OF BULK AT MOST 1048576: true; the input reads as it did. -/
def stitchesSidesUptoRow : OpenClaim := { program := "ytmefpaoakblndaagreatdoor", sum := "04eb005151b044371022b5a67fe02c26c13bc525de6eed82631900b57367e63a", func := "torchon/torchonlaw03.StitchesSides", spec := "stitchesSides", inPlace := ["internal/bytealg.IndexByteString", "internal/bytealg.CountString", "internal/bytealg.IndexString", "internal/abi.NoEscape", "internal/bytealg.MakeNoZero"], unfollowed := true, recurses := true, named := ["unicode/utf8.first", "unicode/utf8.acceptRanges", "internal/bytealg.MaxLen", "torchon/stitches.usual"], apart := false, laid := [("unicode/utf8.acceptRanges", laid_unicode_utf8_acceptRanges), ("torchon/stitches.usual", laid_torchon_stitches_usual), ("unicode/utf8.first", laid_unicode_utf8_first)], narrowed := true }
def StitchesSidesUptoSaid : Prop := stitchesSidesUptoRow.holds Tryz.pinned (OpenSpec.upto stitchesSidesSpec)

/-- 'torchonlaw03.StitchesKeep', WHERE WHAT IT READS IS OF BULK AT MOST 1048576: true; the input reads as it did. -/
def stitchesKeepUptoRow : OpenClaim := { program := "ytmefpaoakblndaagreatdoor", sum := "04eb005151b044371022b5a67fe02c26c13bc525de6eed82631900b57367e63a", func := "torchon/torchonlaw03.StitchesKeep", spec := "stitchesKeep", inPlace := ["internal/bytealg.IndexByteString", "internal/bytealg.CountString", "internal/bytealg.IndexString", "internal/abi.NoEscape", "internal/bytealg.MakeNoZero"], unfollowed := true, recurses := true, named := ["unicode/utf8.first", "unicode/utf8.acceptRanges", "internal/bytealg.MaxLen", "torchon/stitches.usual"], apart := false, laid := [("unicode/utf8.acceptRanges", laid_unicode_utf8_acceptRanges), ("torchon/stitches.usual", laid_torchon_stitches_usual), ("unicode/utf8.first", laid_unicode_utf8_first)], narrowed := true }
def StitchesKeepUptoSaid : Prop := stitchesKeepUptoRow.holds Tryz.pinned (OpenSpec.upto stitchesKeepSpec)

end Rows
end Go.Proofs.YtmefpaoakblndaaGreatDoor
