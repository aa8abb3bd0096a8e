/-
  NARROWER THAN 'FOR EVERY INPUT', by the rows' own cells (each row's printed sentence says how): GridsMeasures: laid · GridsSides: laid · GridsGroups: laid · GridsMoves: laid · GridsReduces: laid · GridsKeep: laid · GridsReduced: laid · GridsTurns: laid · GridsBack: laid · GridsShortest: laid.
  DERIVED. THE GIVEN ROWS OF THIS SEAT. 10 by the template 'for every input the law returns true; each argument reads behind the call as it read before'; 0 by the template 'total and deterministic' (their statements: YtehpgmhilcoalaaDoorTotals.lean).
  GIVEN WITH THE SEED: the statements are not yours to turn. If you find one false, say at which input.
  Laid BY PROGRAM, IN A SANDBOX (cutbox-rows.mjs): the forced cells as the released guide's own fill.sh prints them over the translation 6583f2950d880b82… (all of the seat's roots in one cut). By AI agents, Wed Nov 11 2026. No macro, syntax, notation, axiom, sorry.
-/
import Derived.Test.YtehpgmhilcoalaaDoorChecked
import GoSem.Claim
import GoSem.ClaimJoined
import GoSem.ClaimMapViews
import Derived.JoinedTies
import Derived.KernelRfl
namespace Go.Proofs.YtehpgmhilcoalaaDoor
/- THE CELL 'sum', in the pinned program and in every row, IS THE sha256 OF THE DUMP (.gsa) THAT YtehpgmhilcoalaaDoorProg.lean LOADS. Nothing in Lean hashes anything: it is a label: what it is worth is what the hold of that sum in a sandbox is worth. -/
noncomputable def Tryd.pinned : Pinned := { name := "ytehpgmhilcoalaadoor", sum := "6583f2950d880b8241306c11174c594fc0c28cde542438eeca5ce7b5476993b8", checked := Tryd.checked }
namespace Rows
def none {H : Type} : Left H := { results := [], args := [] }

/- WHAT THE LISTED PACKAGE-LEVEL VARIABLES READ AS WHEN THE CALL BEGINS. Each datum BY PROGRAM (the guide's laid-datum.mjs) off the statement by which the dump's own 'gosem.cut.vars' lays the variable. In a bare row this is a premise. The card (YtehpgmhilcoalaaDoorCards.lean) ties it to the program's text. -/
def laid_torchon_grids_one {H : Type} : DataW H := .agg [.lit (.int .i64 1), .lit (.int .i64 0), .lit (.int .i64 0), .lit (.int .i64 1)]

/-- 'torchonlaw06.GridsMeasures': WHATEVER THE INPUT: true; the input reads as it did. -/
def gridsMeasuresSpec : ChangeSpec := { name := "gridsMeasures", fn := fun _ => fun
  | [d1, d2] => { results := [.lit (.bool true)], args := [d1, d2] }
  | _ => none }
def gridsMeasuresRow : OpenClaim := { program := "ytehpgmhilcoalaadoor", sum := "6583f2950d880b8241306c11174c594fc0c28cde542438eeca5ce7b5476993b8", func := "torchon/torchonlaw06.GridsMeasures", spec := "gridsMeasures", unfollowed := true, recurses := true, named := ["torchon/grids.one"], apart := false, laid := [("torchon/grids.one", laid_torchon_grids_one)] }
def GridsMeasuresSaid : Prop := gridsMeasuresRow.holds Tryd.pinned (OpenSpec.ofChange gridsMeasuresSpec)

/-- ITS FALSE NEIGHBOUR: 'it returns false'. Refute it at one input. -/
def gridsMeasuresWrong : ChangeSpec := { name := "gridsMeasures", fn := fun _ => fun
  | [d1, d2] => { results := [.lit (.bool false)], args := [d1, d2] }
  | _ => none }
def GridsMeasuresWrongFalsely : Prop := gridsMeasuresRow.holds Tryd.pinned (OpenSpec.ofChange gridsMeasuresWrong)

/-- 'torchonlaw06.GridsSides': WHATEVER THE INPUT: true; the input reads as it did. -/
def gridsSidesSpec : ChangeSpec := { name := "gridsSides", fn := fun _ => fun
  | [d] => { results := [.lit (.bool true)], args := [d] }
  | _ => none }
def gridsSidesRow : OpenClaim := { program := "ytehpgmhilcoalaadoor", sum := "6583f2950d880b8241306c11174c594fc0c28cde542438eeca5ce7b5476993b8", func := "torchon/torchonlaw06.GridsSides", spec := "gridsSides", unfollowed := true, recurses := true, named := ["torchon/grids.one"], apart := false, laid := [("torchon/grids.one", laid_torchon_grids_one)] }
def GridsSidesSaid : Prop := gridsSidesRow.holds Tryd.pinned (OpenSpec.ofChange gridsSidesSpec)

/-- ITS FALSE NEIGHBOUR: 'it returns false'. Refute it at one input. -/
def gridsSidesWrong : ChangeSpec := { name := "gridsSides", fn := fun _ => fun
  | [d] => { results := [.lit (.bool false)], args := [d] }
  | _ => none }
def GridsSidesWrongFalsely : Prop := gridsSidesRow.holds Tryd.pinned (OpenSpec.ofChange gridsSidesWrong)

/-- 'torchonlaw06.GridsGroups': WHATEVER THE INPUT: true; the input reads as it did. -/
def gridsGroupsSpec : ChangeSpec := { name := "gridsGroups", fn := fun _ => fun
  | [d1, d2] => { results := [.lit (.bool true)], args := [d1, d2] }
  | _ => none }
def gridsGroupsRow : OpenClaim := { program := "ytehpgmhilcoalaadoor", sum := "6583f2950d880b8241306c11174c594fc0c28cde542438eeca5ce7b5476993b8", func := "torchon/torchonlaw06.GridsGroups", spec := "gridsGroups", unfollowed := true, recurses := true, named := ["torchon/grids.one"], apart := false, laid := [("torchon/grids.one", laid_torchon_grids_one)] }
def GridsGroupsSaid : Prop := gridsGroupsRow.holds Tryd.pinned (OpenSpec.ofChange gridsGroupsSpec)

/-- ITS FALSE NEIGHBOUR: 'it returns false'. Refute it at one input. -/
def gridsGroupsWrong : ChangeSpec := { name := "gridsGroups", fn := fun _ => fun
  | [d1, d2] => { results := [.lit (.bool false)], args := [d1, d2] }
  | _ => none }
def GridsGroupsWrongFalsely : Prop := gridsGroupsRow.holds Tryd.pinned (OpenSpec.ofChange gridsGroupsWrong)

/-- 'torchonlaw06.GridsMoves': WHATEVER THE INPUT: true; the input reads as it did. -/
def gridsMovesSpec : ChangeSpec := { name := "gridsMoves", fn := fun _ => fun
  | [d1, d2, d3] => { results := [.lit (.bool true)], args := [d1, d2, d3] }
  | _ => none }
def gridsMovesRow : OpenClaim := { program := "ytehpgmhilcoalaadoor", sum := "6583f2950d880b8241306c11174c594fc0c28cde542438eeca5ce7b5476993b8", func := "torchon/torchonlaw06.GridsMoves", spec := "gridsMoves", unfollowed := true, recurses := true, named := ["torchon/grids.one"], apart := false, laid := [("torchon/grids.one", laid_torchon_grids_one)] }
def GridsMovesSaid : Prop := gridsMovesRow.holds Tryd.pinned (OpenSpec.ofChange gridsMovesSpec)

/-- ITS FALSE NEIGHBOUR: 'it returns false'. Refute it at one input. -/
def gridsMovesWrong : ChangeSpec := { name := "gridsMoves", fn := fun _ => fun
  | [d1, d2, d3] => { results := [.lit (.bool false)], args := [d1, d2, d3] }
  | _ => none }
def GridsMovesWrongFalsely : Prop := gridsMovesRow.holds Tryd.pinned (OpenSpec.ofChange gridsMovesWrong)

/-- 'torchonlaw06.GridsReduces': WHATEVER THE INPUT: true; the input reads as it did. -/
def gridsReducesSpec : ChangeSpec := { name := "gridsReduces", fn := fun _ => fun
  | [d] => { results := [.lit (.bool true)], args := [d] }
  | _ => none }
def gridsReducesRow : OpenClaim := { program := "ytehpgmhilcoalaadoor", sum := "6583f2950d880b8241306c11174c594fc0c28cde542438eeca5ce7b5476993b8", func := "torchon/torchonlaw06.GridsReduces", spec := "gridsReduces", unfollowed := true, recurses := true, named := ["torchon/grids.one"], apart := false, laid := [("torchon/grids.one", laid_torchon_grids_one)] }
def GridsReducesSaid : Prop := gridsReducesRow.holds Tryd.pinned (OpenSpec.ofChange gridsReducesSpec)

/-- ITS FALSE NEIGHBOUR: 'it returns false'. Refute it at one input. -/
def gridsReducesWrong : ChangeSpec := { name := "gridsReduces", fn := fun _ => fun
  | [d] => { results := [.lit (.bool false)], args := [d] }
  | _ => none }
def GridsReducesWrongFalsely : Prop := gridsReducesRow.holds Tryd.pinned (OpenSpec.ofChange gridsReducesWrong)

/-- 'torchonlaw06.GridsKeep': WHATEVER THE INPUT: true; the input reads as it did. -/
def gridsKeepSpec : ChangeSpec := { name := "gridsKeep", fn := fun _ => fun
  | [d1, d2, d3] => { results := [.lit (.bool true)], args := [d1, d2, d3] }
  | _ => none }
def gridsKeepRow : OpenClaim := { program := "ytehpgmhilcoalaadoor", sum := "6583f2950d880b8241306c11174c594fc0c28cde542438eeca5ce7b5476993b8", func := "torchon/torchonlaw06.GridsKeep", spec := "gridsKeep", unfollowed := true, recurses := true, named := ["torchon/grids.one"], apart := false, laid := [("torchon/grids.one", laid_torchon_grids_one)] }
def GridsKeepSaid : Prop := gridsKeepRow.holds Tryd.pinned (OpenSpec.ofChange gridsKeepSpec)

/-- ITS FALSE NEIGHBOUR: 'it returns false'. Refute it at one input. -/
def gridsKeepWrong : ChangeSpec := { name := "gridsKeep", fn := fun _ => fun
  | [d1, d2, d3] => { results := [.lit (.bool false)], args := [d1, d2, d3] }
  | _ => none }
def GridsKeepWrongFalsely : Prop := gridsKeepRow.holds Tryd.pinned (OpenSpec.ofChange gridsKeepWrong)

/-- 'torchonlaw06.GridsReduced': WHATEVER THE INPUT: true; the input reads as it did. -/
def gridsReducedSpec : ChangeSpec := { name := "gridsReduced", fn := fun _ => fun
  | [d1, d2] => { results := [.lit (.bool true)], args := [d1, d2] }
  | _ => none }
def gridsReducedRow : OpenClaim := { program := "ytehpgmhilcoalaadoor", sum := "6583f2950d880b8241306c11174c594fc0c28cde542438eeca5ce7b5476993b8", func := "torchon/torchonlaw06.GridsReduced", spec := "gridsReduced", unfollowed := true, recurses := true, named := ["torchon/grids.one"], apart := false, laid := [("torchon/grids.one", laid_torchon_grids_one)] }
def GridsReducedSaid : Prop := gridsReducedRow.holds Tryd.pinned (OpenSpec.ofChange gridsReducedSpec)

/-- ITS FALSE NEIGHBOUR: 'it returns false'. Refute it at one input. -/
def gridsReducedWrong : ChangeSpec := { name := "gridsReduced", fn := fun _ => fun
  | [d1, d2] => { results := [.lit (.bool false)], args := [d1, d2] }
  | _ => none }
def GridsReducedWrongFalsely : Prop := gridsReducedRow.holds Tryd.pinned (OpenSpec.ofChange gridsReducedWrong)

/-- 'torchonlaw06.GridsTurns': WHATEVER THE INPUT: true; the input reads as it did. -/
def gridsTurnsSpec : ChangeSpec := { name := "gridsTurns", fn := fun _ => fun
  | [d1, d2] => { results := [.lit (.bool true)], args := [d1, d2] }
  | _ => none }
def gridsTurnsRow : OpenClaim := { program := "ytehpgmhilcoalaadoor", sum := "6583f2950d880b8241306c11174c594fc0c28cde542438eeca5ce7b5476993b8", func := "torchon/torchonlaw06.GridsTurns", spec := "gridsTurns", unfollowed := true, recurses := true, named := ["torchon/grids.one"], apart := false, laid := [("torchon/grids.one", laid_torchon_grids_one)] }
def GridsTurnsSaid : Prop := gridsTurnsRow.holds Tryd.pinned (OpenSpec.ofChange gridsTurnsSpec)

/-- ITS FALSE NEIGHBOUR: 'it returns false'. Refute it at one input. -/
def gridsTurnsWrong : ChangeSpec := { name := "gridsTurns", fn := fun _ => fun
  | [d1, d2] => { results := [.lit (.bool false)], args := [d1, d2] }
  | _ => none }
def GridsTurnsWrongFalsely : Prop := gridsTurnsRow.holds Tryd.pinned (OpenSpec.ofChange gridsTurnsWrong)

/-- 'torchonlaw06.GridsBack': WHATEVER THE INPUT: true; the input reads as it did. -/
def gridsBackSpec : ChangeSpec := { name := "gridsBack", fn := fun _ => fun
  | [d1, d2] => { results := [.lit (.bool true)], args := [d1, d2] }
  | _ => none }
def gridsBackRow : OpenClaim := { program := "ytehpgmhilcoalaadoor", sum := "6583f2950d880b8241306c11174c594fc0c28cde542438eeca5ce7b5476993b8", func := "torchon/torchonlaw06.GridsBack", spec := "gridsBack", unfollowed := true, recurses := true, named := ["torchon/grids.one"], apart := false, laid := [("torchon/grids.one", laid_torchon_grids_one)] }
def GridsBackSaid : Prop := gridsBackRow.holds Tryd.pinned (OpenSpec.ofChange gridsBackSpec)

/-- ITS FALSE NEIGHBOUR: 'it returns false'. Refute it at one input. -/
def gridsBackWrong : ChangeSpec := { name := "gridsBack", fn := fun _ => fun
  | [d1, d2] => { results := [.lit (.bool false)], args := [d1, d2] }
  | _ => none }
def GridsBackWrongFalsely : Prop := gridsBackRow.holds Tryd.pinned (OpenSpec.ofChange gridsBackWrong)

/-- 'torchonlaw06.GridsShortest': WHATEVER THE INPUT: true; the input reads as it did. -/
def gridsShortestSpec : ChangeSpec := { name := "gridsShortest", fn := fun _ => fun
  | [d1, d2] => { results := [.lit (.bool true)], args := [d1, d2] }
  | _ => none }
def gridsShortestRow : OpenClaim := { program := "ytehpgmhilcoalaadoor", sum := "6583f2950d880b8241306c11174c594fc0c28cde542438eeca5ce7b5476993b8", func := "torchon/torchonlaw06.GridsShortest", spec := "gridsShortest", unfollowed := true, recurses := true, named := ["torchon/grids.one"], apart := false, laid := [("torchon/grids.one", laid_torchon_grids_one)] }
def GridsShortestSaid : Prop := gridsShortestRow.holds Tryd.pinned (OpenSpec.ofChange gridsShortestSpec)

/-- ITS FALSE NEIGHBOUR: 'it returns false'. Refute it at one input. -/
def gridsShortestWrong : ChangeSpec := { name := "gridsShortest", fn := fun _ => fun
  | [d1, d2] => { results := [.lit (.bool false)], args := [d1, d2] }
  | _ => none }
def GridsShortestWrongFalsely : Prop := gridsShortestRow.holds Tryd.pinned (OpenSpec.ofChange gridsShortestWrong)

/- THE SECOND FORM. 'bulk': how many values and letters a reading holds, each counted each time it is reached (what is shared counts as often as it is met; a slice's spare places count too). A statement '..UptoSaid' is the law's where the arguments, and the package variables that the reading takes, are together of bulk at most 1048576: NARROWER than '..Said'. Prove '..Said' where nothing that the law and all that it calls make is longer than what came in: it says more and counts as full. Else prove '..UptoSaid'. A law counts once. -/
mutual
def uptoBulk {H : Type} : DataW H → Nat
  | .lit (.string bytes) => bytes.length + 1
  | .lit _ => 1
  | .nil => 1
  | .ptr d => uptoBulk d + 1
  | .slice elems spare => uptoBulkAll elems + uptoBulkAll spare + 1
  | .agg parts => uptoBulkAll parts + 1
  | .iface _ d => uptoBulk d + 1
  | .map entries => uptoBulkEntries entries + 1
  | .held _ => 1
def uptoBulkAll {H : Type} : List (DataW H) → Nat
  | [] => 0
  | d :: r => uptoBulk d + uptoBulkAll r
def uptoBulkEntries {H : Type} : List (Lit × DataW H) → Nat
  | [] => 0
  | x :: r => uptoBulkEntry x + uptoBulkEntries r
def uptoBulkEntry {H : Type} : Lit × DataW H → Nat
  | (.string bytes, d) => bytes.length + uptoBulk d + 1
  | (_, d) => uptoBulk d + 1
 end
def uptoSmall : (H : Type) → List (DataW H) → Bool := fun _ ds => decide (uptoBulkAll ds ≤ 1048576)
def OpenSpec.upto (s : _root_.Go.ChangeSpec) : _root_.Go.OpenSpec := { _root_.Go.OpenSpec.ofChange s with cond := some uptoSmall }

/-- 'torchonlaw06.GridsMeasures', WHERE WHAT IT READS IS OF BULK AT MOST 1048576: true; the input reads as it did. -/
def gridsMeasuresUptoRow : OpenClaim := { program := "ytehpgmhilcoalaadoor", sum := "6583f2950d880b8241306c11174c594fc0c28cde542438eeca5ce7b5476993b8", func := "torchon/torchonlaw06.GridsMeasures", spec := "gridsMeasures", unfollowed := true, recurses := true, named := ["torchon/grids.one"], apart := false, laid := [("torchon/grids.one", laid_torchon_grids_one)], narrowed := true }
def GridsMeasuresUptoSaid : Prop := gridsMeasuresUptoRow.holds Tryd.pinned (OpenSpec.upto gridsMeasuresSpec)

/-- 'torchonlaw06.GridsSides', WHERE WHAT IT READS IS OF BULK AT MOST 1048576: true; the input reads as it did. -/
def gridsSidesUptoRow : OpenClaim := { program := "ytehpgmhilcoalaadoor", sum := "6583f2950d880b8241306c11174c594fc0c28cde542438eeca5ce7b5476993b8", func := "torchon/torchonlaw06.GridsSides", spec := "gridsSides", unfollowed := true, recurses := true, named := ["torchon/grids.one"], apart := false, laid := [("torchon/grids.one", laid_torchon_grids_one)], narrowed := true }
def GridsSidesUptoSaid : Prop := gridsSidesUptoRow.holds Tryd.pinned (OpenSpec.upto gridsSidesSpec)

/-- 'torchonlaw06.GridsGroups', WHERE WHAT IT READS IS OF BULK AT MOST 1048576: true; the input reads as it did. -/
def gridsGroupsUptoRow : OpenClaim := { program := "ytehpgmhilcoalaadoor", sum := "6583f2950d880b8241306c11174c594fc0c28cde542438eeca5ce7b5476993b8", func := "torchon/torchonlaw06.GridsGroups", spec := "gridsGroups", unfollowed := true, recurses := true, named := ["torchon/grids.one"], apart := false, laid := [("torchon/grids.one", laid_torchon_grids_one)], narrowed := true }
def GridsGroupsUptoSaid : Prop := gridsGroupsUptoRow.holds Tryd.pinned (OpenSpec.upto gridsGroupsSpec)

/-- 'torchonlaw06.GridsMoves', WHERE WHAT IT READS IS OF BULK AT MOST 1048576: true; the input reads as it did. -/
def gridsMovesUptoRow : OpenClaim := { program := "ytehpgmhilcoalaadoor", sum := "6583f2950d880b8241306c11174c594fc0c28cde542438eeca5ce7b5476993b8", func := "torchon/torchonlaw06.GridsMoves", spec := "gridsMoves", unfollowed := true, recurses := true, named := ["torchon/grids.one"], apart := false, laid := [("torchon/grids.one", laid_torchon_grids_one)], narrowed := true }
def GridsMovesUptoSaid : Prop := gridsMovesUptoRow.holds Tryd.pinned (OpenSpec.upto gridsMovesSpec)

/-- 'torchonlaw06.GridsReduces', WHERE WHAT IT READS IS OF BULK AT MOST 1048576: true; the input reads as it did. -/
def gridsReducesUptoRow : OpenClaim := { program := "ytehpgmhilcoalaadoor", sum := "6583f2950d880b8241306c11174c594fc0c28cde542438eeca5ce7b5476993b8", func := "torchon/torchonlaw06.GridsReduces", spec := "gridsReduces", unfollowed := true, recurses := true, named := ["torchon/grids.one"], apart := false, laid := [("torchon/grids.one", laid_torchon_grids_one)], narrowed := true }
def GridsReducesUptoSaid : Prop := gridsReducesUptoRow.holds Tryd.pinned (OpenSpec.upto gridsReducesSpec)

/-- 'torchonlaw06.GridsKeep', WHERE WHAT IT READS IS OF BULK AT MOST 1048576: true; the input reads as it did. -/
def gridsKeepUptoRow : OpenClaim := { program := "ytehpgmhilcoalaadoor", sum := "6583f2950d880b8241306c11174c594fc0c28cde542438eeca5ce7b5476993b8", func := "torchon/torchonlaw06.GridsKeep", spec := "gridsKeep", unfollowed := true, recurses := true, named := ["torchon/grids.one"], apart := false, laid := [("torchon/grids.one", laid_torchon_grids_one)], narrowed := true }
def GridsKeepUptoSaid : Prop := gridsKeepUptoRow.holds Tryd.pinned (OpenSpec.upto gridsKeepSpec)

/-- 'torchonlaw06.GridsReduced', WHERE WHAT IT READS IS OF BULK AT MOST 1048576: true; the input reads as it did. -/
def gridsReducedUptoRow : OpenClaim := { program := "ytehpgmhilcoalaadoor", sum := "6583f2950d880b8241306c11174c594fc0c28cde542438eeca5ce7b5476993b8", func := "torchon/torchonlaw06.GridsReduced", spec := "gridsReduced", unfollowed := true, recurses := true, named := ["torchon/grids.one"], apart := false, laid := [("torchon/grids.one", laid_torchon_grids_one)], narrowed := true }
def GridsReducedUptoSaid : Prop := gridsReducedUptoRow.holds Tryd.pinned (OpenSpec.upto gridsReducedSpec)

/-- 'torchonlaw06.GridsTurns', WHERE WHAT IT READS IS OF BULK AT MOST 1048576: true; the input reads as it did. -/
def gridsTurnsUptoRow : OpenClaim := { program := "ytehpgmhilcoalaadoor", sum := "6583f2950d880b8241306c11174c594fc0c28cde542438eeca5ce7b5476993b8", func := "torchon/torchonlaw06.GridsTurns", spec := "gridsTurns", unfollowed := true, recurses := true, named := ["torchon/grids.one"], apart := false, laid := [("torchon/grids.one", laid_torchon_grids_one)], narrowed := true }
def GridsTurnsUptoSaid : Prop := gridsTurnsUptoRow.holds Tryd.pinned (OpenSpec.upto gridsTurnsSpec)

/-- 'torchonlaw06.GridsBack', WHERE WHAT IT READS IS OF BULK AT MOST 1048576: true; the input reads as it did. -/
def gridsBackUptoRow : OpenClaim := { program := "ytehpgmhilcoalaadoor", sum := "6583f2950d880b8241306c11174c594fc0c28cde542438eeca5ce7b5476993b8", func := "torchon/torchonlaw06.GridsBack", spec := "gridsBack", unfollowed := true, recurses := true, named := ["torchon/grids.one"], apart := false, laid := [("torchon/grids.one", laid_torchon_grids_one)], narrowed := true }
def GridsBackUptoSaid : Prop := gridsBackUptoRow.holds Tryd.pinned (OpenSpec.upto gridsBackSpec)

/-- 'torchonlaw06.GridsShortest', WHERE WHAT IT READS IS OF BULK AT MOST 1048576: true; the input reads as it did. -/
def gridsShortestUptoRow : OpenClaim := { program := "ytehpgmhilcoalaadoor", sum := "6583f2950d880b8241306c11174c594fc0c28cde542438eeca5ce7b5476993b8", func := "torchon/torchonlaw06.GridsShortest", spec := "gridsShortest", unfollowed := true, recurses := true, named := ["torchon/grids.one"], apart := false, laid := [("torchon/grids.one", laid_torchon_grids_one)], narrowed := true }
def GridsShortestUptoSaid : Prop := gridsShortestUptoRow.holds Tryd.pinned (OpenSpec.upto gridsShortestSpec)

end Rows
end Go.Proofs.YtehpgmhilcoalaaDoor
