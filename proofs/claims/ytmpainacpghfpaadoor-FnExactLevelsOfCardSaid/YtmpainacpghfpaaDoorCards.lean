/-
  DERIVED. GIVEN WITH THE SEED: THE CARDS: each row of YtmpainacpghfpaaDoorRows.lean that lists a variable, with what it lists TIED to the program's text (the seventh form; the later family's looks); each row that meets fmt, with fmt's text TOLD by the authors' own Lean function (tested against real Go, not proved from fmt's source: count such statements apart). THE CARD IS WHAT COUNTS. Prove the row's statement (the work); the ties are given (YtmpainacpghfpaaDoorTie.lean); close each card by the builder's one call (the guide's Derived/Test/ToyasCard.lean, 'card_holds'). Laid BY PROGRAM, IN A SANDBOX (cutbox-door.mjs). By AI agents, Wed Nov 11 2026. No macro, syntax, notation, axiom, sorry.
-/
import Derived.Test.YtmpainacpghfpaaDoorRows
import GoSem.ClaimSeven
namespace Go.Proofs.YtmpainacpghfpaaDoor
namespace Rows

/-- THE TIED CARD OF 'laws.FnExactDependencesOf'. -/
def fnExactDependencesOfCard : Claim7 := { stood := { row := fnExactDependencesOfRow, standIns := [], harness := (true, "665e17783d39f29f30d20bafdc002935318e109fea7144b2208d743f268deac7"), looks := true }, kinds := [], alts := [], laidByText := true, laidKinds := [.data], laidTests := true, laidLooks := .later }
def FnExactDependencesOfCardSaid : Prop := Claim7.holds Tryd.pinned (.plain (OpenSpec.ofChange fnExactDependencesOfSpec)) fnExactDependencesOfCard

/-- THE TIED CARD OF 'laws.FnExactLevelsOf'. -/
def fnExactLevelsOfCard : Claim7 := { stood := { row := fnExactLevelsOfRow, standIns := [], harness := (true, "665e17783d39f29f30d20bafdc002935318e109fea7144b2208d743f268deac7"), looks := true }, kinds := [], alts := [], laidByText := true, laidKinds := [.data], laidTests := true, laidLooks := .later }
def FnExactLevelsOfCardSaid : Prop := Claim7.holds Tryd.pinned (.plain (OpenSpec.ofChange fnExactLevelsOfSpec)) fnExactLevelsOfCard

/-- THE TIED CARD OF 'laws.FnExactInputsOf'. -/
def fnExactInputsOfCard : Claim7 := { stood := { row := fnExactInputsOfRow, standIns := [], harness := (true, "665e17783d39f29f30d20bafdc002935318e109fea7144b2208d743f268deac7"), looks := true }, kinds := [], alts := [], laidByText := true, laidKinds := [.data], laidTests := true, laidLooks := .later }
def FnExactInputsOfCardSaid : Prop := Claim7.holds Tryd.pinned (.plain (OpenSpec.ofChange fnExactInputsOfSpec)) fnExactInputsOfCard

/-- THE TIED CARD OF 'laws.FnExactOutputsOf'. -/
def fnExactOutputsOfCard : Claim7 := { stood := { row := fnExactOutputsOfRow, standIns := [], harness := (true, "665e17783d39f29f30d20bafdc002935318e109fea7144b2208d743f268deac7"), looks := true }, kinds := [], alts := [], laidByText := true, laidKinds := [.data], laidTests := true, laidLooks := .later }
def FnExactOutputsOfCardSaid : Prop := Claim7.holds Tryd.pinned (.plain (OpenSpec.ofChange fnExactOutputsOfSpec)) fnExactOutputsOfCard

/-- THE TIED CARD OF 'laws.FnExactNeededFor'. -/
def fnExactNeededForCard : Claim7 := { stood := { row := fnExactNeededForRow, standIns := [], harness := (true, "665e17783d39f29f30d20bafdc002935318e109fea7144b2208d743f268deac7"), looks := true }, kinds := [], alts := [], laidByText := true, laidKinds := [.data], laidTests := true, laidLooks := .later }
def FnExactNeededForCardSaid : Prop := Claim7.holds Tryd.pinned (.plain (OpenSpec.ofChange fnExactNeededForSpec)) fnExactNeededForCard

/-- THE TIED CARD OF 'laws.FnExactCodeText'. -/
def fnExactCodeTextCard : Claim7 := { stood := { row := fnExactCodeTextRow, standIns := [], harness := (true, "665e17783d39f29f30d20bafdc002935318e109fea7144b2208d743f268deac7"), looks := true }, kinds := [], alts := [], laidByText := true, laidKinds := [.data, .data, .data, .data], laidTests := true, laidLooks := .later }
def FnExactCodeTextCardSaid : Prop := Claim7.holds Tryd.pinned (.plain (OpenSpec.ofChange fnExactCodeTextSpec)) fnExactCodeTextCard

/-- THE TIED CARD OF 'laws.FnExactReadCode'. -/
def fnExactReadCodeCard : Claim7 := { stood := { row := fnExactReadCodeRow, standIns := [], harness := (true, "665e17783d39f29f30d20bafdc002935318e109fea7144b2208d743f268deac7"), looks := true }, kinds := [], alts := [], laidByText := true, laidKinds := [.data, .data, .data, .data, .sentinel, .sentinel, .data, .pinned], laidTests := true, laidLooks := .later }
def FnExactReadCodeCardSaid : Prop := Claim7.holds Tryd.pinned (.plain (OpenSpec.ofChange fnExactReadCodeSpec)) fnExactReadCodeCard

/-- THE SECOND FORM's CARD OF 'laws.FnExactDependencesOf'. -/
def fnExactDependencesOfUptoCard : Claim7 := { stood := { row := fnExactDependencesOfUptoRow, standIns := [], harness := (true, "665e17783d39f29f30d20bafdc002935318e109fea7144b2208d743f268deac7"), looks := true }, kinds := [], alts := [], laidByText := true, laidKinds := [.data], laidTests := true, laidLooks := .later }
def FnExactDependencesOfUptoCardSaid : Prop := Claim7.holds Tryd.pinned (.plain (OpenSpec.upto fnExactDependencesOfSpec)) fnExactDependencesOfUptoCard

/-- THE SECOND FORM's CARD OF 'laws.FnExactLevelsOf'. -/
def fnExactLevelsOfUptoCard : Claim7 := { stood := { row := fnExactLevelsOfUptoRow, standIns := [], harness := (true, "665e17783d39f29f30d20bafdc002935318e109fea7144b2208d743f268deac7"), looks := true }, kinds := [], alts := [], laidByText := true, laidKinds := [.data], laidTests := true, laidLooks := .later }
def FnExactLevelsOfUptoCardSaid : Prop := Claim7.holds Tryd.pinned (.plain (OpenSpec.upto fnExactLevelsOfSpec)) fnExactLevelsOfUptoCard

/-- THE SECOND FORM's CARD OF 'laws.FnExactInputsOf'. -/
def fnExactInputsOfUptoCard : Claim7 := { stood := { row := fnExactInputsOfUptoRow, standIns := [], harness := (true, "665e17783d39f29f30d20bafdc002935318e109fea7144b2208d743f268deac7"), looks := true }, kinds := [], alts := [], laidByText := true, laidKinds := [.data], laidTests := true, laidLooks := .later }
def FnExactInputsOfUptoCardSaid : Prop := Claim7.holds Tryd.pinned (.plain (OpenSpec.upto fnExactInputsOfSpec)) fnExactInputsOfUptoCard

/-- THE SECOND FORM's CARD OF 'laws.FnExactOutputsOf'. -/
def fnExactOutputsOfUptoCard : Claim7 := { stood := { row := fnExactOutputsOfUptoRow, standIns := [], harness := (true, "665e17783d39f29f30d20bafdc002935318e109fea7144b2208d743f268deac7"), looks := true }, kinds := [], alts := [], laidByText := true, laidKinds := [.data], laidTests := true, laidLooks := .later }
def FnExactOutputsOfUptoCardSaid : Prop := Claim7.holds Tryd.pinned (.plain (OpenSpec.upto fnExactOutputsOfSpec)) fnExactOutputsOfUptoCard

/-- THE SECOND FORM's CARD OF 'laws.FnExactNeededFor'. -/
def fnExactNeededForUptoCard : Claim7 := { stood := { row := fnExactNeededForUptoRow, standIns := [], harness := (true, "665e17783d39f29f30d20bafdc002935318e109fea7144b2208d743f268deac7"), looks := true }, kinds := [], alts := [], laidByText := true, laidKinds := [.data], laidTests := true, laidLooks := .later }
def FnExactNeededForUptoCardSaid : Prop := Claim7.holds Tryd.pinned (.plain (OpenSpec.upto fnExactNeededForSpec)) fnExactNeededForUptoCard

/-- THE SECOND FORM's CARD OF 'laws.FnExactCodeText'. -/
def fnExactCodeTextUptoCard : Claim7 := { stood := { row := fnExactCodeTextUptoRow, standIns := [], harness := (true, "665e17783d39f29f30d20bafdc002935318e109fea7144b2208d743f268deac7"), looks := true }, kinds := [], alts := [], laidByText := true, laidKinds := [.data, .data, .data, .data], laidTests := true, laidLooks := .later }
def FnExactCodeTextUptoCardSaid : Prop := Claim7.holds Tryd.pinned (.plain (OpenSpec.upto fnExactCodeTextSpec)) fnExactCodeTextUptoCard

/-- THE SECOND FORM's CARD OF 'laws.FnExactReadCode'. -/
def fnExactReadCodeUptoCard : Claim7 := { stood := { row := fnExactReadCodeUptoRow, standIns := [], harness := (true, "665e17783d39f29f30d20bafdc002935318e109fea7144b2208d743f268deac7"), looks := true }, kinds := [], alts := [], laidByText := true, laidKinds := [.data, .data, .data, .data, .sentinel, .sentinel, .data, .pinned], laidTests := true, laidLooks := .later }
def FnExactReadCodeUptoCardSaid : Prop := Claim7.holds Tryd.pinned (.plain (OpenSpec.upto fnExactReadCodeSpec)) fnExactReadCodeUptoCard
end Rows
end Go.Proofs.YtmpainacpghfpaaDoor
