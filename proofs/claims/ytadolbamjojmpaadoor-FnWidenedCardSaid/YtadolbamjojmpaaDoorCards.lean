/-
  DERIVED. GIVEN WITH THE SEED: THE CARDS: each row of YtadolbamjojmpaaDoorRows.lean that lists a variable, with what it lists TIED to the program's text (the seventh form; the later family's looks); each row that meets fmt, with fmt's text TOLD by the authors' own Lean function (tested against real Go, not proved from fmt's source: count such statements apart). THE CARD IS WHAT COUNTS. Prove the row's statement (the work); the ties are given (YtadolbamjojmpaaDoorTie.lean); close each card by the builder's one call (the guide's Derived/Test/ToyasCard.lean, 'card_holds'). Laid BY PROGRAM, IN A SANDBOX (cutbox-door.mjs). By AI agents, Wed Nov 11 2026. No macro, syntax, notation, axiom, sorry.
-/
import Derived.Test.YtadolbamjojmpaaDoorRows
import GoSem.ClaimSeven
namespace Go.Proofs.YtadolbamjojmpaaDoor
namespace Rows

/-- THE TIED CARD OF 'laws.FnWidened'. -/
def fnWidenedCard : Claim7 := { stood := { row := fnWidenedRow, standIns := [], harness := (true, "a11c12a8311ee3e0bcb91cb58e06095812421f1a4dcfb841bbe823fdbdc7f6dc"), looks := true }, kinds := [], alts := [], laidByText := true, laidKinds := [.handle], laidTests := true, laidLooks := .later }
def FnWidenedCardSaid : Prop := Claim7.holds Tryd.pinned (.plain (OpenSpec.ofChange fnWidenedSpec)) fnWidenedCard

/-- THE TIED CARD OF 'laws.FnExactNarrowLanes'. -/
def fnExactNarrowLanesCard : Claim7 := { stood := { row := fnExactNarrowLanesRow, standIns := [], harness := (true, "a11c12a8311ee3e0bcb91cb58e06095812421f1a4dcfb841bbe823fdbdc7f6dc"), looks := true }, kinds := [], alts := [], laidByText := true, laidKinds := [.handle], laidTests := true, laidLooks := .later }
def FnExactNarrowLanesCardSaid : Prop := Claim7.holds Tryd.pinned (.plain (OpenSpec.ofChange fnExactNarrowLanesSpec)) fnExactNarrowLanesCard

/-- THE SECOND FORM's CARD OF 'laws.FnWidened'. -/
def fnWidenedUptoCard : Claim7 := { stood := { row := fnWidenedUptoRow, standIns := [], harness := (true, "a11c12a8311ee3e0bcb91cb58e06095812421f1a4dcfb841bbe823fdbdc7f6dc"), looks := true }, kinds := [], alts := [], laidByText := true, laidKinds := [.handle], laidTests := true, laidLooks := .later }
def FnWidenedUptoCardSaid : Prop := Claim7.holds Tryd.pinned (.plain (OpenSpec.upto fnWidenedSpec)) fnWidenedUptoCard

/-- THE SECOND FORM's CARD OF 'laws.FnExactNarrowLanes'. -/
def fnExactNarrowLanesUptoCard : Claim7 := { stood := { row := fnExactNarrowLanesUptoRow, standIns := [], harness := (true, "a11c12a8311ee3e0bcb91cb58e06095812421f1a4dcfb841bbe823fdbdc7f6dc"), looks := true }, kinds := [], alts := [], laidByText := true, laidKinds := [.handle], laidTests := true, laidLooks := .later }
def FnExactNarrowLanesUptoCardSaid : Prop := Claim7.holds Tryd.pinned (.plain (OpenSpec.upto fnExactNarrowLanesSpec)) fnExactNarrowLanesUptoCard
end Rows
end Go.Proofs.YtadolbamjojmpaaDoor
