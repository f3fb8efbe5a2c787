/-
  DERIVED. GIVEN WITH THE SEED: THE CARDS: each row of YtbaiaahdjkjjoaaDoorRows.lean that lists a variable, with what it lists TIED to the program's text (the seventh form; the later family's looks); each row that meets fmt, with fmt's text TOLD by the authors' own Lean function (tested against real Go, not proved from fmt's source: count such statements apart). THE CARD IS WHAT COUNTS. Prove the row's statement (the work); the ties are given (YtbaiaahdjkjjoaaDoorTie.lean); close each card by the builder's one call (the guide's Derived/Test/ToyasCard.lean, 'card_holds'). Laid BY PROGRAM, IN A SANDBOX (cutbox-door.mjs). By AI agents, Wed Nov 11 2026. No macro, syntax, notation, axiom, sorry.
-/
import Derived.Test.YtbaiaahdjkjjoaaDoorRows
import GoSem.ClaimSeven
namespace Go.Proofs.YtbaiaahdjkjjoaaDoor
namespace Rows

/-- THE TIED CARD OF 'laws.FnExactLevelsOf'. -/
def fnExactLevelsOfCard : Claim7 := { stood := { row := fnExactLevelsOfRow, standIns := [], harness := (true, "bcce8030d3bcba8f556a42996d1ecc7c4ddf5524625d0c2ed9d5c9311eda2608"), looks := false }, kinds := [], alts := [], laidByText := true, laidKinds := [.data], laidTests := true, laidLooks := .later }
def FnExactLevelsOfCardSaid : Prop := Claim7.holds Tryd.pinned (.plain (OpenSpec.ofChange fnExactLevelsOfSpec)) fnExactLevelsOfCard

/-- THE TIED CARD OF 'laws.FnExactInputsOf'. -/
def fnExactInputsOfCard : Claim7 := { stood := { row := fnExactInputsOfRow, standIns := [], harness := (true, "bcce8030d3bcba8f556a42996d1ecc7c4ddf5524625d0c2ed9d5c9311eda2608"), looks := false }, kinds := [], alts := [], laidByText := true, laidKinds := [.data], laidTests := true, laidLooks := .later }
def FnExactInputsOfCardSaid : Prop := Claim7.holds Tryd.pinned (.plain (OpenSpec.ofChange fnExactInputsOfSpec)) fnExactInputsOfCard

/-- THE TIED CARD OF 'laws.FnExactOutputsOf'. -/
def fnExactOutputsOfCard : Claim7 := { stood := { row := fnExactOutputsOfRow, standIns := [], harness := (true, "bcce8030d3bcba8f556a42996d1ecc7c4ddf5524625d0c2ed9d5c9311eda2608"), looks := false }, kinds := [], alts := [], laidByText := true, laidKinds := [.data], laidTests := true, laidLooks := .later }
def FnExactOutputsOfCardSaid : Prop := Claim7.holds Tryd.pinned (.plain (OpenSpec.ofChange fnExactOutputsOfSpec)) fnExactOutputsOfCard

/-- THE SECOND FORM's CARD OF 'laws.FnExactLevelsOf'. -/
def fnExactLevelsOfUptoCard : Claim7 := { stood := { row := fnExactLevelsOfUptoRow, standIns := [], harness := (true, "bcce8030d3bcba8f556a42996d1ecc7c4ddf5524625d0c2ed9d5c9311eda2608"), looks := false }, kinds := [], alts := [], laidByText := true, laidKinds := [.data], laidTests := true, laidLooks := .later }
def FnExactLevelsOfUptoCardSaid : Prop := Claim7.holds Tryd.pinned (.plain (OpenSpec.upto fnExactLevelsOfSpec)) fnExactLevelsOfUptoCard

/-- THE SECOND FORM's CARD OF 'laws.FnExactInputsOf'. -/
def fnExactInputsOfUptoCard : Claim7 := { stood := { row := fnExactInputsOfUptoRow, standIns := [], harness := (true, "bcce8030d3bcba8f556a42996d1ecc7c4ddf5524625d0c2ed9d5c9311eda2608"), looks := false }, kinds := [], alts := [], laidByText := true, laidKinds := [.data], laidTests := true, laidLooks := .later }
def FnExactInputsOfUptoCardSaid : Prop := Claim7.holds Tryd.pinned (.plain (OpenSpec.upto fnExactInputsOfSpec)) fnExactInputsOfUptoCard

/-- THE SECOND FORM's CARD OF 'laws.FnExactOutputsOf'. -/
def fnExactOutputsOfUptoCard : Claim7 := { stood := { row := fnExactOutputsOfUptoRow, standIns := [], harness := (true, "bcce8030d3bcba8f556a42996d1ecc7c4ddf5524625d0c2ed9d5c9311eda2608"), looks := false }, kinds := [], alts := [], laidByText := true, laidKinds := [.data], laidTests := true, laidLooks := .later }
def FnExactOutputsOfUptoCardSaid : Prop := Claim7.holds Tryd.pinned (.plain (OpenSpec.upto fnExactOutputsOfSpec)) fnExactOutputsOfUptoCard
end Rows
end Go.Proofs.YtbaiaahdjkjjoaaDoor
