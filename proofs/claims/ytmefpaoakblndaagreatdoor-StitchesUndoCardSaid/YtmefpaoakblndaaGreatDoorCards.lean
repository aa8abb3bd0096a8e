/-
  DERIVED. GIVEN WITH THE SEED: THE CARDS: each row of YtmefpaoakblndaaGreatDoorRows.lean that lists a variable, with what it lists TIED to the program's text (the seventh form; the later family's looks); each row that meets fmt, with fmt's text TOLD by the authors' own Lean function (tested against real Go, not proved from fmt's source: count such statements apart). THE CARD IS WHAT COUNTS. Prove the row's statement (the work); the ties are given (YtmefpaoakblndaaGreatDoorTie.lean); close each card by the builder's one call (the guide's Derived/Test/ToyasCard.lean, 'card_holds'). Laid BY PROGRAM, IN A SANDBOX (cutbox-door.mjs). By AI agents, Wed Nov 11 2026. No macro, syntax, notation, axiom, sorry.
-/
import Derived.Test.YtmefpaoakblndaaGreatDoorRows
import GoSem.ClaimSeven
namespace Go.Proofs.YtmefpaoakblndaaGreatDoor
namespace Rows

/-- THE TIED CARD OF 'torchonlaw03.StitchesMoves'. -/
def stitchesMovesCard : Claim7 := { stood := { row := stitchesMovesRow, standIns := [], harness := (true, "6894483ef4fdae141b0ef318a7b443ddcda53773b1565577e9f77cdd32ca0527"), looks := false }, kinds := [], alts := [], laidByText := true, laidKinds := [.data, .data, .pinned], laidTests := true, laidLooks := .later }
def StitchesMovesCardSaid : Prop := Claim7.holds Tryz.pinned (.plain (OpenSpec.ofChange stitchesMovesSpec)) stitchesMovesCard

/-- THE TIED CARD OF 'torchonlaw03.StitchesReduce'. -/
def stitchesReduceCard : Claim7 := { stood := { row := stitchesReduceRow, standIns := [], harness := (true, "6894483ef4fdae141b0ef318a7b443ddcda53773b1565577e9f77cdd32ca0527"), looks := false }, kinds := [], alts := [], laidByText := true, laidKinds := [.data, .data, .pinned], laidTests := true, laidLooks := .later }
def StitchesReduceCardSaid : Prop := Claim7.holds Tryz.pinned (.plain (OpenSpec.ofChange stitchesReduceSpec)) stitchesReduceCard

/-- THE TIED CARD OF 'torchonlaw03.StitchesNames'. -/
def stitchesNamesCard : Claim7 := { stood := { row := stitchesNamesRow, standIns := [], harness := (true, "6894483ef4fdae141b0ef318a7b443ddcda53773b1565577e9f77cdd32ca0527"), looks := false }, kinds := [], alts := [], laidByText := true, laidKinds := [.data, .data, .pinned], laidTests := true, laidLooks := .later }
def StitchesNamesCardSaid : Prop := Claim7.holds Tryz.pinned (.plain (OpenSpec.ofChange stitchesNamesSpec)) stitchesNamesCard

/-- THE TIED CARD OF 'torchonlaw03.StitchesUndo'. -/
def stitchesUndoCard : Claim7 := { stood := { row := stitchesUndoRow, standIns := [], harness := (true, "6894483ef4fdae141b0ef318a7b443ddcda53773b1565577e9f77cdd32ca0527"), looks := false }, kinds := [], alts := [], laidByText := true, laidKinds := [.data, .data, .pinned], laidTests := true, laidLooks := .later }
def StitchesUndoCardSaid : Prop := Claim7.holds Tryz.pinned (.plain (OpenSpec.ofChange stitchesUndoSpec)) stitchesUndoCard

/-- THE TIED CARD OF 'torchonlaw03.StitchesSides'. -/
def stitchesSidesCard : Claim7 := { stood := { row := stitchesSidesRow, standIns := [], harness := (true, "6894483ef4fdae141b0ef318a7b443ddcda53773b1565577e9f77cdd32ca0527"), looks := false }, kinds := [], alts := [], laidByText := true, laidKinds := [.data, .data, .pinned], laidTests := true, laidLooks := .later }
def StitchesSidesCardSaid : Prop := Claim7.holds Tryz.pinned (.plain (OpenSpec.ofChange stitchesSidesSpec)) stitchesSidesCard

/-- THE TIED CARD OF 'torchonlaw03.StitchesKeep'. -/
def stitchesKeepCard : Claim7 := { stood := { row := stitchesKeepRow, standIns := [], harness := (true, "6894483ef4fdae141b0ef318a7b443ddcda53773b1565577e9f77cdd32ca0527"), looks := false }, kinds := [], alts := [], laidByText := true, laidKinds := [.data, .data, .pinned], laidTests := true, laidLooks := .later }
def StitchesKeepCardSaid : Prop := Claim7.holds Tryz.pinned (.plain (OpenSpec.ofChange stitchesKeepSpec)) stitchesKeepCard

/-- THE SECOND FORM's CARD OF 'torchonlaw03.StitchesMoves'. -/
def stitchesMovesUptoCard : Claim7 := { stood := { row := stitchesMovesUptoRow, standIns := [], harness := (true, "6894483ef4fdae141b0ef318a7b443ddcda53773b1565577e9f77cdd32ca0527"), looks := false }, kinds := [], alts := [], laidByText := true, laidKinds := [.data, .data, .pinned], laidTests := true, laidLooks := .later }
def StitchesMovesUptoCardSaid : Prop := Claim7.holds Tryz.pinned (.plain (OpenSpec.upto stitchesMovesSpec)) stitchesMovesUptoCard

/-- THE SECOND FORM's CARD OF 'torchonlaw03.StitchesReduce'. -/
def stitchesReduceUptoCard : Claim7 := { stood := { row := stitchesReduceUptoRow, standIns := [], harness := (true, "6894483ef4fdae141b0ef318a7b443ddcda53773b1565577e9f77cdd32ca0527"), looks := false }, kinds := [], alts := [], laidByText := true, laidKinds := [.data, .data, .pinned], laidTests := true, laidLooks := .later }
def StitchesReduceUptoCardSaid : Prop := Claim7.holds Tryz.pinned (.plain (OpenSpec.upto stitchesReduceSpec)) stitchesReduceUptoCard

/-- THE SECOND FORM's CARD OF 'torchonlaw03.StitchesNames'. -/
def stitchesNamesUptoCard : Claim7 := { stood := { row := stitchesNamesUptoRow, standIns := [], harness := (true, "6894483ef4fdae141b0ef318a7b443ddcda53773b1565577e9f77cdd32ca0527"), looks := false }, kinds := [], alts := [], laidByText := true, laidKinds := [.data, .data, .pinned], laidTests := true, laidLooks := .later }
def StitchesNamesUptoCardSaid : Prop := Claim7.holds Tryz.pinned (.plain (OpenSpec.upto stitchesNamesSpec)) stitchesNamesUptoCard

/-- THE SECOND FORM's CARD OF 'torchonlaw03.StitchesUndo'. -/
def stitchesUndoUptoCard : Claim7 := { stood := { row := stitchesUndoUptoRow, standIns := [], harness := (true, "6894483ef4fdae141b0ef318a7b443ddcda53773b1565577e9f77cdd32ca0527"), looks := false }, kinds := [], alts := [], laidByText := true, laidKinds := [.data, .data, .pinned], laidTests := true, laidLooks := .later }
def StitchesUndoUptoCardSaid : Prop := Claim7.holds Tryz.pinned (.plain (OpenSpec.upto stitchesUndoSpec)) stitchesUndoUptoCard

/-- THE SECOND FORM's CARD OF 'torchonlaw03.StitchesSides'. -/
def stitchesSidesUptoCard : Claim7 := { stood := { row := stitchesSidesUptoRow, standIns := [], harness := (true, "6894483ef4fdae141b0ef318a7b443ddcda53773b1565577e9f77cdd32ca0527"), looks := false }, kinds := [], alts := [], laidByText := true, laidKinds := [.data, .data, .pinned], laidTests := true, laidLooks := .later }
def StitchesSidesUptoCardSaid : Prop := Claim7.holds Tryz.pinned (.plain (OpenSpec.upto stitchesSidesSpec)) stitchesSidesUptoCard

/-- THE SECOND FORM's CARD OF 'torchonlaw03.StitchesKeep'. -/
def stitchesKeepUptoCard : Claim7 := { stood := { row := stitchesKeepUptoRow, standIns := [], harness := (true, "6894483ef4fdae141b0ef318a7b443ddcda53773b1565577e9f77cdd32ca0527"), looks := false }, kinds := [], alts := [], laidByText := true, laidKinds := [.data, .data, .pinned], laidTests := true, laidLooks := .later }
def StitchesKeepUptoCardSaid : Prop := Claim7.holds Tryz.pinned (.plain (OpenSpec.upto stitchesKeepSpec)) stitchesKeepUptoCard
end Rows
end Go.Proofs.YtmefpaoakblndaaGreatDoor
