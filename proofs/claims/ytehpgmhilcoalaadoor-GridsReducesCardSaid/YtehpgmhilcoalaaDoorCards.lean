/-
  DERIVED. GIVEN WITH THE SEED: THE CARDS: each row of YtehpgmhilcoalaaDoorRows.lean that lists a variable, with what it lists TIED to the program's text (the seventh form; the later family's looks); each row that meets fmt, with fmt's text TOLD by the authors' own Lean function (tested against real Go, not proved from fmt's source: count such statements apart). THE CARD IS WHAT COUNTS. Prove the row's statement (the work); the ties are given (YtehpgmhilcoalaaDoorTie.lean); close each card by the builder's one call (the guide's Derived/Test/ToyasCard.lean, 'card_holds'). Laid BY PROGRAM, IN A SANDBOX (cutbox-door.mjs). By AI agents, Wed Nov 11 2026. No macro, syntax, notation, axiom, sorry.
-/
import Derived.Test.YtehpgmhilcoalaaDoorRows
import GoSem.ClaimSeven
namespace Go.Proofs.YtehpgmhilcoalaaDoor
namespace Rows

/-- THE TIED CARD OF 'torchonlaw06.GridsMeasures'. -/
def gridsMeasuresCard : Claim7 := { stood := { row := gridsMeasuresRow, standIns := [], harness := (true, "dc95062210993d47bd36f47d2e6b93aa8cb89693f261b0823f623d9e9b08a2e7"), looks := false }, kinds := [], alts := [], laidByText := true, laidKinds := [.data], laidTests := true, laidLooks := .later }
def GridsMeasuresCardSaid : Prop := Claim7.holds Tryd.pinned (.plain (OpenSpec.ofChange gridsMeasuresSpec)) gridsMeasuresCard

/-- THE TIED CARD OF 'torchonlaw06.GridsSides'. -/
def gridsSidesCard : Claim7 := { stood := { row := gridsSidesRow, standIns := [], harness := (true, "dc95062210993d47bd36f47d2e6b93aa8cb89693f261b0823f623d9e9b08a2e7"), looks := false }, kinds := [], alts := [], laidByText := true, laidKinds := [.data], laidTests := true, laidLooks := .later }
def GridsSidesCardSaid : Prop := Claim7.holds Tryd.pinned (.plain (OpenSpec.ofChange gridsSidesSpec)) gridsSidesCard

/-- THE TIED CARD OF 'torchonlaw06.GridsGroups'. -/
def gridsGroupsCard : Claim7 := { stood := { row := gridsGroupsRow, standIns := [], harness := (true, "dc95062210993d47bd36f47d2e6b93aa8cb89693f261b0823f623d9e9b08a2e7"), looks := false }, kinds := [], alts := [], laidByText := true, laidKinds := [.data], laidTests := true, laidLooks := .later }
def GridsGroupsCardSaid : Prop := Claim7.holds Tryd.pinned (.plain (OpenSpec.ofChange gridsGroupsSpec)) gridsGroupsCard

/-- THE TIED CARD OF 'torchonlaw06.GridsMoves'. -/
def gridsMovesCard : Claim7 := { stood := { row := gridsMovesRow, standIns := [], harness := (true, "dc95062210993d47bd36f47d2e6b93aa8cb89693f261b0823f623d9e9b08a2e7"), looks := false }, kinds := [], alts := [], laidByText := true, laidKinds := [.data], laidTests := true, laidLooks := .later }
def GridsMovesCardSaid : Prop := Claim7.holds Tryd.pinned (.plain (OpenSpec.ofChange gridsMovesSpec)) gridsMovesCard

/-- THE TIED CARD OF 'torchonlaw06.GridsReduces'. -/
def gridsReducesCard : Claim7 := { stood := { row := gridsReducesRow, standIns := [], harness := (true, "dc95062210993d47bd36f47d2e6b93aa8cb89693f261b0823f623d9e9b08a2e7"), looks := false }, kinds := [], alts := [], laidByText := true, laidKinds := [.data], laidTests := true, laidLooks := .later }
def GridsReducesCardSaid : Prop := Claim7.holds Tryd.pinned (.plain (OpenSpec.ofChange gridsReducesSpec)) gridsReducesCard

/-- THE TIED CARD OF 'torchonlaw06.GridsKeep'. -/
def gridsKeepCard : Claim7 := { stood := { row := gridsKeepRow, standIns := [], harness := (true, "dc95062210993d47bd36f47d2e6b93aa8cb89693f261b0823f623d9e9b08a2e7"), looks := false }, kinds := [], alts := [], laidByText := true, laidKinds := [.data], laidTests := true, laidLooks := .later }
def GridsKeepCardSaid : Prop := Claim7.holds Tryd.pinned (.plain (OpenSpec.ofChange gridsKeepSpec)) gridsKeepCard

/-- THE TIED CARD OF 'torchonlaw06.GridsReduced'. -/
def gridsReducedCard : Claim7 := { stood := { row := gridsReducedRow, standIns := [], harness := (true, "dc95062210993d47bd36f47d2e6b93aa8cb89693f261b0823f623d9e9b08a2e7"), looks := false }, kinds := [], alts := [], laidByText := true, laidKinds := [.data], laidTests := true, laidLooks := .later }
def GridsReducedCardSaid : Prop := Claim7.holds Tryd.pinned (.plain (OpenSpec.ofChange gridsReducedSpec)) gridsReducedCard

/-- THE TIED CARD OF 'torchonlaw06.GridsTurns'. -/
def gridsTurnsCard : Claim7 := { stood := { row := gridsTurnsRow, standIns := [], harness := (true, "dc95062210993d47bd36f47d2e6b93aa8cb89693f261b0823f623d9e9b08a2e7"), looks := false }, kinds := [], alts := [], laidByText := true, laidKinds := [.data], laidTests := true, laidLooks := .later }
def GridsTurnsCardSaid : Prop := Claim7.holds Tryd.pinned (.plain (OpenSpec.ofChange gridsTurnsSpec)) gridsTurnsCard

/-- THE TIED CARD OF 'torchonlaw06.GridsBack'. -/
def gridsBackCard : Claim7 := { stood := { row := gridsBackRow, standIns := [], harness := (true, "dc95062210993d47bd36f47d2e6b93aa8cb89693f261b0823f623d9e9b08a2e7"), looks := false }, kinds := [], alts := [], laidByText := true, laidKinds := [.data], laidTests := true, laidLooks := .later }
def GridsBackCardSaid : Prop := Claim7.holds Tryd.pinned (.plain (OpenSpec.ofChange gridsBackSpec)) gridsBackCard

/-- THE TIED CARD OF 'torchonlaw06.GridsShortest'. -/
def gridsShortestCard : Claim7 := { stood := { row := gridsShortestRow, standIns := [], harness := (true, "dc95062210993d47bd36f47d2e6b93aa8cb89693f261b0823f623d9e9b08a2e7"), looks := false }, kinds := [], alts := [], laidByText := true, laidKinds := [.data], laidTests := true, laidLooks := .later }
def GridsShortestCardSaid : Prop := Claim7.holds Tryd.pinned (.plain (OpenSpec.ofChange gridsShortestSpec)) gridsShortestCard

/-- THE SECOND FORM's CARD OF 'torchonlaw06.GridsMeasures'. -/
def gridsMeasuresUptoCard : Claim7 := { stood := { row := gridsMeasuresUptoRow, standIns := [], harness := (true, "dc95062210993d47bd36f47d2e6b93aa8cb89693f261b0823f623d9e9b08a2e7"), looks := false }, kinds := [], alts := [], laidByText := true, laidKinds := [.data], laidTests := true, laidLooks := .later }
def GridsMeasuresUptoCardSaid : Prop := Claim7.holds Tryd.pinned (.plain (OpenSpec.upto gridsMeasuresSpec)) gridsMeasuresUptoCard

/-- THE SECOND FORM's CARD OF 'torchonlaw06.GridsSides'. -/
def gridsSidesUptoCard : Claim7 := { stood := { row := gridsSidesUptoRow, standIns := [], harness := (true, "dc95062210993d47bd36f47d2e6b93aa8cb89693f261b0823f623d9e9b08a2e7"), looks := false }, kinds := [], alts := [], laidByText := true, laidKinds := [.data], laidTests := true, laidLooks := .later }
def GridsSidesUptoCardSaid : Prop := Claim7.holds Tryd.pinned (.plain (OpenSpec.upto gridsSidesSpec)) gridsSidesUptoCard

/-- THE SECOND FORM's CARD OF 'torchonlaw06.GridsGroups'. -/
def gridsGroupsUptoCard : Claim7 := { stood := { row := gridsGroupsUptoRow, standIns := [], harness := (true, "dc95062210993d47bd36f47d2e6b93aa8cb89693f261b0823f623d9e9b08a2e7"), looks := false }, kinds := [], alts := [], laidByText := true, laidKinds := [.data], laidTests := true, laidLooks := .later }
def GridsGroupsUptoCardSaid : Prop := Claim7.holds Tryd.pinned (.plain (OpenSpec.upto gridsGroupsSpec)) gridsGroupsUptoCard

/-- THE SECOND FORM's CARD OF 'torchonlaw06.GridsMoves'. -/
def gridsMovesUptoCard : Claim7 := { stood := { row := gridsMovesUptoRow, standIns := [], harness := (true, "dc95062210993d47bd36f47d2e6b93aa8cb89693f261b0823f623d9e9b08a2e7"), looks := false }, kinds := [], alts := [], laidByText := true, laidKinds := [.data], laidTests := true, laidLooks := .later }
def GridsMovesUptoCardSaid : Prop := Claim7.holds Tryd.pinned (.plain (OpenSpec.upto gridsMovesSpec)) gridsMovesUptoCard

/-- THE SECOND FORM's CARD OF 'torchonlaw06.GridsReduces'. -/
def gridsReducesUptoCard : Claim7 := { stood := { row := gridsReducesUptoRow, standIns := [], harness := (true, "dc95062210993d47bd36f47d2e6b93aa8cb89693f261b0823f623d9e9b08a2e7"), looks := false }, kinds := [], alts := [], laidByText := true, laidKinds := [.data], laidTests := true, laidLooks := .later }
def GridsReducesUptoCardSaid : Prop := Claim7.holds Tryd.pinned (.plain (OpenSpec.upto gridsReducesSpec)) gridsReducesUptoCard

/-- THE SECOND FORM's CARD OF 'torchonlaw06.GridsKeep'. -/
def gridsKeepUptoCard : Claim7 := { stood := { row := gridsKeepUptoRow, standIns := [], harness := (true, "dc95062210993d47bd36f47d2e6b93aa8cb89693f261b0823f623d9e9b08a2e7"), looks := false }, kinds := [], alts := [], laidByText := true, laidKinds := [.data], laidTests := true, laidLooks := .later }
def GridsKeepUptoCardSaid : Prop := Claim7.holds Tryd.pinned (.plain (OpenSpec.upto gridsKeepSpec)) gridsKeepUptoCard

/-- THE SECOND FORM's CARD OF 'torchonlaw06.GridsReduced'. -/
def gridsReducedUptoCard : Claim7 := { stood := { row := gridsReducedUptoRow, standIns := [], harness := (true, "dc95062210993d47bd36f47d2e6b93aa8cb89693f261b0823f623d9e9b08a2e7"), looks := false }, kinds := [], alts := [], laidByText := true, laidKinds := [.data], laidTests := true, laidLooks := .later }
def GridsReducedUptoCardSaid : Prop := Claim7.holds Tryd.pinned (.plain (OpenSpec.upto gridsReducedSpec)) gridsReducedUptoCard

/-- THE SECOND FORM's CARD OF 'torchonlaw06.GridsTurns'. -/
def gridsTurnsUptoCard : Claim7 := { stood := { row := gridsTurnsUptoRow, standIns := [], harness := (true, "dc95062210993d47bd36f47d2e6b93aa8cb89693f261b0823f623d9e9b08a2e7"), looks := false }, kinds := [], alts := [], laidByText := true, laidKinds := [.data], laidTests := true, laidLooks := .later }
def GridsTurnsUptoCardSaid : Prop := Claim7.holds Tryd.pinned (.plain (OpenSpec.upto gridsTurnsSpec)) gridsTurnsUptoCard

/-- THE SECOND FORM's CARD OF 'torchonlaw06.GridsBack'. -/
def gridsBackUptoCard : Claim7 := { stood := { row := gridsBackUptoRow, standIns := [], harness := (true, "dc95062210993d47bd36f47d2e6b93aa8cb89693f261b0823f623d9e9b08a2e7"), looks := false }, kinds := [], alts := [], laidByText := true, laidKinds := [.data], laidTests := true, laidLooks := .later }
def GridsBackUptoCardSaid : Prop := Claim7.holds Tryd.pinned (.plain (OpenSpec.upto gridsBackSpec)) gridsBackUptoCard

/-- THE SECOND FORM's CARD OF 'torchonlaw06.GridsShortest'. -/
def gridsShortestUptoCard : Claim7 := { stood := { row := gridsShortestUptoRow, standIns := [], harness := (true, "dc95062210993d47bd36f47d2e6b93aa8cb89693f261b0823f623d9e9b08a2e7"), looks := false }, kinds := [], alts := [], laidByText := true, laidKinds := [.data], laidTests := true, laidLooks := .later }
def GridsShortestUptoCardSaid : Prop := Claim7.holds Tryd.pinned (.plain (OpenSpec.upto gridsShortestSpec)) gridsShortestUptoCard
end Rows
end Go.Proofs.YtehpgmhilcoalaaDoor
