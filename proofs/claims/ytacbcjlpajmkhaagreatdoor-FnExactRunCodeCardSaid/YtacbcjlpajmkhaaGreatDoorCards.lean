/-
  DERIVED. GIVEN WITH THE SEED: THE CARDS: each row of YtacbcjlpajmkhaaGreatDoorRows.lean that lists a variable, with what it lists TIED to the program's text (the seventh form; the later family's looks); each row that meets fmt, with fmt's text TOLD by the authors' own Lean function (tested against real Go, not proved from fmt's source: count such statements apart). THE CARD IS WHAT COUNTS. Prove the row's statement (the work); the ties are given (YtacbcjlpajmkhaaGreatDoorTie.lean); close each card by the builder's one call (the guide's Derived/Test/ToyasCard.lean, 'card_holds'). Laid BY PROGRAM, IN A SANDBOX (cutbox-door.mjs). By AI agents, Wed Nov 11 2026. No macro, syntax, notation, axiom, sorry.
-/
import Derived.Test.YtacbcjlpajmkhaaGreatDoorRows
import GoSem.ClaimSeven
namespace Go.Proofs.YtacbcjlpajmkhaaGreatDoor
namespace Rows

/-- THE TIED CARD OF 'laws.FnLanes'. -/
def fnLanesCard : Claim7 := { stood := { row := fnLanesRow, standIns := [], harness := (true, "9c8b0c11b697ce3569dec4021ac32a7b5334c567183d81f87abd1f4ff6fdb10e"), looks := true }, kinds := [], alts := [], laidByText := true, laidKinds := [.handle], laidTests := true, laidLooks := .later }
def FnLanesCardSaid : Prop := Claim7.holds Tryz.pinned (.plain (OpenSpec.ofChange fnLanesSpec)) fnLanesCard

/-- THE TIED CARD OF 'laws.FnNeeded'. -/
def fnNeededCard : Claim7 := { stood := { row := fnNeededRow, standIns := [], harness := (true, "9c8b0c11b697ce3569dec4021ac32a7b5334c567183d81f87abd1f4ff6fdb10e"), looks := true }, kinds := [], alts := [], laidByText := true, laidKinds := [.data, .handle], laidTests := true, laidLooks := .later }
def FnNeededCardSaid : Prop := Claim7.holds Tryz.pinned (.plain (OpenSpec.ofChange fnNeededSpec)) fnNeededCard

/-- THE TIED CARD OF 'laws.FnValueNumbers'. -/
def fnValueNumbersCard : Claim7 := { stood := { row := fnValueNumbersRow, standIns := [], harness := (true, "9c8b0c11b697ce3569dec4021ac32a7b5334c567183d81f87abd1f4ff6fdb10e"), looks := true }, kinds := [], alts := [], laidByText := true, laidKinds := [.handle], laidTests := true, laidLooks := .later }
def FnValueNumbersCardSaid : Prop := Claim7.holds Tryz.pinned (.plain (OpenSpec.ofChange fnValueNumbersSpec)) fnValueNumbersCard

/-- THE TIED CARD OF 'laws.FnExactRunCode'. -/
def fnExactRunCodeCard : Claim7 := { stood := { row := fnExactRunCodeRow, standIns := [], harness := (true, "9c8b0c11b697ce3569dec4021ac32a7b5334c567183d81f87abd1f4ff6fdb10e"), looks := true }, kinds := [], alts := [], laidByText := true, laidKinds := [.handle], laidTests := true, laidLooks := .later }
def FnExactRunCodeCardSaid : Prop := Claim7.holds Tryz.pinned (.plain (OpenSpec.ofChange fnExactRunCodeSpec)) fnExactRunCodeCard

/-- THE SECOND FORM's CARD OF 'laws.FnLanes'. -/
def fnLanesUptoCard : Claim7 := { stood := { row := fnLanesUptoRow, standIns := [], harness := (true, "9c8b0c11b697ce3569dec4021ac32a7b5334c567183d81f87abd1f4ff6fdb10e"), looks := true }, kinds := [], alts := [], laidByText := true, laidKinds := [.handle], laidTests := true, laidLooks := .later }
def FnLanesUptoCardSaid : Prop := Claim7.holds Tryz.pinned (.plain (OpenSpec.upto fnLanesSpec)) fnLanesUptoCard

/-- THE SECOND FORM's CARD OF 'laws.FnNeeded'. -/
def fnNeededUptoCard : Claim7 := { stood := { row := fnNeededUptoRow, standIns := [], harness := (true, "9c8b0c11b697ce3569dec4021ac32a7b5334c567183d81f87abd1f4ff6fdb10e"), looks := true }, kinds := [], alts := [], laidByText := true, laidKinds := [.data, .handle], laidTests := true, laidLooks := .later }
def FnNeededUptoCardSaid : Prop := Claim7.holds Tryz.pinned (.plain (OpenSpec.upto fnNeededSpec)) fnNeededUptoCard

/-- THE SECOND FORM's CARD OF 'laws.FnValueNumbers'. -/
def fnValueNumbersUptoCard : Claim7 := { stood := { row := fnValueNumbersUptoRow, standIns := [], harness := (true, "9c8b0c11b697ce3569dec4021ac32a7b5334c567183d81f87abd1f4ff6fdb10e"), looks := true }, kinds := [], alts := [], laidByText := true, laidKinds := [.handle], laidTests := true, laidLooks := .later }
def FnValueNumbersUptoCardSaid : Prop := Claim7.holds Tryz.pinned (.plain (OpenSpec.upto fnValueNumbersSpec)) fnValueNumbersUptoCard

/-- THE SECOND FORM's CARD OF 'laws.FnExactRunCode'. -/
def fnExactRunCodeUptoCard : Claim7 := { stood := { row := fnExactRunCodeUptoRow, standIns := [], harness := (true, "9c8b0c11b697ce3569dec4021ac32a7b5334c567183d81f87abd1f4ff6fdb10e"), looks := true }, kinds := [], alts := [], laidByText := true, laidKinds := [.handle], laidTests := true, laidLooks := .later }
def FnExactRunCodeUptoCardSaid : Prop := Claim7.holds Tryz.pinned (.plain (OpenSpec.upto fnExactRunCodeSpec)) fnExactRunCodeUptoCard
end Rows
end Go.Proofs.YtacbcjlpajmkhaaGreatDoor
