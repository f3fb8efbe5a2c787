/-
  DERIVED. GIVEN WITH THE SEED: THE CARDS: each row of YtokdddkbpmcfgaaDoorRows.lean that lists a variable, with what it lists TIED to the program's text (the seventh form; the later family's looks); each row that meets fmt, with fmt's text TOLD by the authors' own Lean function (tested against real Go, not proved from fmt's source: count such statements apart). THE CARD IS WHAT COUNTS. Prove the row's statement (the work); the ties are given (YtokdddkbpmcfgaaDoorTie.lean); close each card by the builder's one call (the guide's Derived/Test/ToyasCard.lean, 'card_holds'). Laid BY PROGRAM, IN A SANDBOX (cutbox-door.mjs). By AI agents, Wed Nov 11 2026. No macro, syntax, notation, axiom, sorry.
-/
import Derived.Test.YtokdddkbpmcfgaaDoorRows
import GoSem.ClaimSeven
namespace Go.Proofs.YtokdddkbpmcfgaaDoor
namespace Rows

/-- THE TIED CARD OF 'laws.FnRouted'. -/
def fnRoutedCard : Claim7 := { stood := { row := fnRoutedRow, standIns := [], harness := (true, "dc9b95c6e028b615f9a0b649ab53a5b9c735a476c44007ec7216f2815969c1f0"), looks := false }, kinds := [], alts := [], laidByText := true, laidKinds := [.data], laidTests := true, laidLooks := .later }
def FnRoutedCardSaid : Prop := Claim7.holds Tryd.pinned (.plain (OpenSpec.ofChange fnRoutedSpec)) fnRoutedCard

/-- THE TIED CARD OF 'laws.FnExactIsNetwork'. -/
def fnExactIsNetworkCard : Claim7 := { stood := { row := fnExactIsNetworkRow, standIns := [], harness := (true, "dc9b95c6e028b615f9a0b649ab53a5b9c735a476c44007ec7216f2815969c1f0"), looks := false }, kinds := [], alts := [], laidByText := true, laidKinds := [.data], laidTests := true, laidLooks := .later }
def FnExactIsNetworkCardSaid : Prop := Claim7.holds Tryd.pinned (.plain (OpenSpec.ofChange fnExactIsNetworkSpec)) fnExactIsNetworkCard

/-- THE TIED CARD OF 'laws.FnExactRunNetwork'. -/
def fnExactRunNetworkCard : Claim7 := { stood := { row := fnExactRunNetworkRow, standIns := [], harness := (true, "dc9b95c6e028b615f9a0b649ab53a5b9c735a476c44007ec7216f2815969c1f0"), looks := false }, kinds := [], alts := [], laidByText := true, laidKinds := [.data], laidTests := true, laidLooks := .later }
def FnExactRunNetworkCardSaid : Prop := Claim7.holds Tryd.pinned (.plain (OpenSpec.ofChange fnExactRunNetworkSpec)) fnExactRunNetworkCard

/-- THE TIED CARD OF 'laws.FnExactRouteNetwork'. -/
def fnExactRouteNetworkCard : Claim7 := { stood := { row := fnExactRouteNetworkRow, standIns := [], harness := (true, "dc9b95c6e028b615f9a0b649ab53a5b9c735a476c44007ec7216f2815969c1f0"), looks := false }, kinds := [], alts := [], laidByText := true, laidKinds := [.data], laidTests := true, laidLooks := .later }
def FnExactRouteNetworkCardSaid : Prop := Claim7.holds Tryd.pinned (.plain (OpenSpec.ofChange fnExactRouteNetworkSpec)) fnExactRouteNetworkCard

/-- THE SECOND FORM's CARD OF 'laws.FnRouted'. -/
def fnRoutedUptoCard : Claim7 := { stood := { row := fnRoutedUptoRow, standIns := [], harness := (true, "dc9b95c6e028b615f9a0b649ab53a5b9c735a476c44007ec7216f2815969c1f0"), looks := false }, kinds := [], alts := [], laidByText := true, laidKinds := [.data], laidTests := true, laidLooks := .later }
def FnRoutedUptoCardSaid : Prop := Claim7.holds Tryd.pinned (.plain (OpenSpec.upto fnRoutedSpec)) fnRoutedUptoCard

/-- THE SECOND FORM's CARD OF 'laws.FnExactIsNetwork'. -/
def fnExactIsNetworkUptoCard : Claim7 := { stood := { row := fnExactIsNetworkUptoRow, standIns := [], harness := (true, "dc9b95c6e028b615f9a0b649ab53a5b9c735a476c44007ec7216f2815969c1f0"), looks := false }, kinds := [], alts := [], laidByText := true, laidKinds := [.data], laidTests := true, laidLooks := .later }
def FnExactIsNetworkUptoCardSaid : Prop := Claim7.holds Tryd.pinned (.plain (OpenSpec.upto fnExactIsNetworkSpec)) fnExactIsNetworkUptoCard

/-- THE SECOND FORM's CARD OF 'laws.FnExactRunNetwork'. -/
def fnExactRunNetworkUptoCard : Claim7 := { stood := { row := fnExactRunNetworkUptoRow, standIns := [], harness := (true, "dc9b95c6e028b615f9a0b649ab53a5b9c735a476c44007ec7216f2815969c1f0"), looks := false }, kinds := [], alts := [], laidByText := true, laidKinds := [.data], laidTests := true, laidLooks := .later }
def FnExactRunNetworkUptoCardSaid : Prop := Claim7.holds Tryd.pinned (.plain (OpenSpec.upto fnExactRunNetworkSpec)) fnExactRunNetworkUptoCard

/-- THE SECOND FORM's CARD OF 'laws.FnExactRouteNetwork'. -/
def fnExactRouteNetworkUptoCard : Claim7 := { stood := { row := fnExactRouteNetworkUptoRow, standIns := [], harness := (true, "dc9b95c6e028b615f9a0b649ab53a5b9c735a476c44007ec7216f2815969c1f0"), looks := false }, kinds := [], alts := [], laidByText := true, laidKinds := [.data], laidTests := true, laidLooks := .later }
def FnExactRouteNetworkUptoCardSaid : Prop := Claim7.holds Tryd.pinned (.plain (OpenSpec.upto fnExactRouteNetworkSpec)) fnExactRouteNetworkUptoCard
end Rows
end Go.Proofs.YtokdddkbpmcfgaaDoor
