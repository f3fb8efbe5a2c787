/-
  DERIVED. GIVEN WITH THE SEED: THE CARDS: each row of YteggioppoldaaaaGreatDoorRows.lean that lists a variable, with what it lists TIED to the program's text (the seventh form; the later family's looks); each row that meets fmt, with fmt's text TOLD by the authors' own Lean function (tested against real Go, not proved from fmt's source: count such statements apart). THE CARD IS WHAT COUNTS. Prove the row's statement (the work); the ties are given (YteggioppoldaaaaGreatDoorTie.lean); close each card by the builder's one call (the guide's Derived/Test/ToyasCard.lean, 'card_holds'). Laid BY PROGRAM, IN A SANDBOX (cutbox-door.mjs). By AI agents, Wed Nov 11 2026. No macro, syntax, notation, axiom, sorry.
-/
import Derived.Test.YteggioppoldaaaaGreatDoorRows
import GoSem.ClaimSeven
namespace Go.Proofs.YteggioppoldaaaaGreatDoor
namespace Rows

/-- THE TIED CARD OF 'laws.FnScans'. -/
def fnScansCard : Claim7 := { stood := { row := fnScansRow, standIns := [], harness := (true, "b7b61148ec43a2017d1520344749bd12b847757511c3bb7923cd71dd9da062c2"), looks := true }, kinds := [], alts := [], laidByText := true, laidKinds := [.handle], laidTests := true, laidLooks := .later }
def FnScansCardSaid : Prop := Claim7.holds Tryz.pinned (.plain (OpenSpec.ofChange fnScansSpec)) fnScansCard

/-- THE TIED CARD OF 'laws.FnExactLaneWise'. -/
def fnExactLaneWiseCard : Claim7 := { stood := { row := fnExactLaneWiseRow, standIns := [], harness := (true, "b7b61148ec43a2017d1520344749bd12b847757511c3bb7923cd71dd9da062c2"), looks := true }, kinds := [], alts := [], laidByText := true, laidKinds := [.handle], laidTests := true, laidLooks := .later }
def FnExactLaneWiseCardSaid : Prop := Claim7.holds Tryz.pinned (.plain (OpenSpec.ofChange fnExactLaneWiseSpec)) fnExactLaneWiseCard

/-- THE TIED CARD OF 'laws.FnExactLaneWiseMasked'. -/
def fnExactLaneWiseMaskedCard : Claim7 := { stood := { row := fnExactLaneWiseMaskedRow, standIns := [], harness := (true, "b7b61148ec43a2017d1520344749bd12b847757511c3bb7923cd71dd9da062c2"), looks := true }, kinds := [], alts := [], laidByText := true, laidKinds := [.handle], laidTests := true, laidLooks := .later }
def FnExactLaneWiseMaskedCardSaid : Prop := Claim7.holds Tryz.pinned (.plain (OpenSpec.ofChange fnExactLaneWiseMaskedSpec)) fnExactLaneWiseMaskedCard

/-- THE TIED CARD OF 'laws.FnExactReduceLanes'. -/
def fnExactReduceLanesCard : Claim7 := { stood := { row := fnExactReduceLanesRow, standIns := [], harness := (true, "b7b61148ec43a2017d1520344749bd12b847757511c3bb7923cd71dd9da062c2"), looks := true }, kinds := [], alts := [], laidByText := true, laidKinds := [.handle], laidTests := true, laidLooks := .later }
def FnExactReduceLanesCardSaid : Prop := Claim7.holds Tryz.pinned (.plain (OpenSpec.ofChange fnExactReduceLanesSpec)) fnExactReduceLanesCard

/-- THE TIED CARD OF 'laws.FnExactScanLanes'. -/
def fnExactScanLanesCard : Claim7 := { stood := { row := fnExactScanLanesRow, standIns := [], harness := (true, "b7b61148ec43a2017d1520344749bd12b847757511c3bb7923cd71dd9da062c2"), looks := true }, kinds := [], alts := [], laidByText := true, laidKinds := [.handle], laidTests := true, laidLooks := .later }
def FnExactScanLanesCardSaid : Prop := Claim7.holds Tryz.pinned (.plain (OpenSpec.ofChange fnExactScanLanesSpec)) fnExactScanLanesCard

/-- THE TIED CARD OF 'laws.FnExactStepScan'. -/
def fnExactStepScanCard : Claim7 := { stood := { row := fnExactStepScanRow, standIns := [], harness := (true, "b7b61148ec43a2017d1520344749bd12b847757511c3bb7923cd71dd9da062c2"), looks := true }, kinds := [], alts := [], laidByText := true, laidKinds := [.handle], laidTests := true, laidLooks := .later }
def FnExactStepScanCardSaid : Prop := Claim7.holds Tryz.pinned (.plain (OpenSpec.ofChange fnExactStepScanSpec)) fnExactStepScanCard

/-- THE SECOND FORM's CARD OF 'laws.FnScans'. -/
def fnScansUptoCard : Claim7 := { stood := { row := fnScansUptoRow, standIns := [], harness := (true, "b7b61148ec43a2017d1520344749bd12b847757511c3bb7923cd71dd9da062c2"), looks := true }, kinds := [], alts := [], laidByText := true, laidKinds := [.handle], laidTests := true, laidLooks := .later }
def FnScansUptoCardSaid : Prop := Claim7.holds Tryz.pinned (.plain (OpenSpec.upto fnScansSpec)) fnScansUptoCard

/-- THE SECOND FORM's CARD OF 'laws.FnExactLaneWise'. -/
def fnExactLaneWiseUptoCard : Claim7 := { stood := { row := fnExactLaneWiseUptoRow, standIns := [], harness := (true, "b7b61148ec43a2017d1520344749bd12b847757511c3bb7923cd71dd9da062c2"), looks := true }, kinds := [], alts := [], laidByText := true, laidKinds := [.handle], laidTests := true, laidLooks := .later }
def FnExactLaneWiseUptoCardSaid : Prop := Claim7.holds Tryz.pinned (.plain (OpenSpec.upto fnExactLaneWiseSpec)) fnExactLaneWiseUptoCard

/-- THE SECOND FORM's CARD OF 'laws.FnExactLaneWiseMasked'. -/
def fnExactLaneWiseMaskedUptoCard : Claim7 := { stood := { row := fnExactLaneWiseMaskedUptoRow, standIns := [], harness := (true, "b7b61148ec43a2017d1520344749bd12b847757511c3bb7923cd71dd9da062c2"), looks := true }, kinds := [], alts := [], laidByText := true, laidKinds := [.handle], laidTests := true, laidLooks := .later }
def FnExactLaneWiseMaskedUptoCardSaid : Prop := Claim7.holds Tryz.pinned (.plain (OpenSpec.upto fnExactLaneWiseMaskedSpec)) fnExactLaneWiseMaskedUptoCard

/-- THE SECOND FORM's CARD OF 'laws.FnExactReduceLanes'. -/
def fnExactReduceLanesUptoCard : Claim7 := { stood := { row := fnExactReduceLanesUptoRow, standIns := [], harness := (true, "b7b61148ec43a2017d1520344749bd12b847757511c3bb7923cd71dd9da062c2"), looks := true }, kinds := [], alts := [], laidByText := true, laidKinds := [.handle], laidTests := true, laidLooks := .later }
def FnExactReduceLanesUptoCardSaid : Prop := Claim7.holds Tryz.pinned (.plain (OpenSpec.upto fnExactReduceLanesSpec)) fnExactReduceLanesUptoCard

/-- THE SECOND FORM's CARD OF 'laws.FnExactScanLanes'. -/
def fnExactScanLanesUptoCard : Claim7 := { stood := { row := fnExactScanLanesUptoRow, standIns := [], harness := (true, "b7b61148ec43a2017d1520344749bd12b847757511c3bb7923cd71dd9da062c2"), looks := true }, kinds := [], alts := [], laidByText := true, laidKinds := [.handle], laidTests := true, laidLooks := .later }
def FnExactScanLanesUptoCardSaid : Prop := Claim7.holds Tryz.pinned (.plain (OpenSpec.upto fnExactScanLanesSpec)) fnExactScanLanesUptoCard

/-- THE SECOND FORM's CARD OF 'laws.FnExactStepScan'. -/
def fnExactStepScanUptoCard : Claim7 := { stood := { row := fnExactStepScanUptoRow, standIns := [], harness := (true, "b7b61148ec43a2017d1520344749bd12b847757511c3bb7923cd71dd9da062c2"), looks := true }, kinds := [], alts := [], laidByText := true, laidKinds := [.handle], laidTests := true, laidLooks := .later }
def FnExactStepScanUptoCardSaid : Prop := Claim7.holds Tryz.pinned (.plain (OpenSpec.upto fnExactStepScanSpec)) fnExactStepScanUptoCard
end Rows
end Go.Proofs.YteggioppoldaaaaGreatDoor
