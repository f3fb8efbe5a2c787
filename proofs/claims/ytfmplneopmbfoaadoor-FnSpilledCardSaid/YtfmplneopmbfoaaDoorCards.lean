/-
  DERIVED. GIVEN WITH THE SEED: THE CARDS: each row of YtfmplneopmbfoaaDoorRows.lean that lists a variable, with what it lists TIED to the program's text (the seventh form; the later family's looks); each row that meets fmt, with fmt's text TOLD by the authors' own Lean function (tested against real Go, not proved from fmt's source: count such statements apart). THE CARD IS WHAT COUNTS. Prove the row's statement (the work); the ties are given (YtfmplneopmbfoaaDoorTie.lean); close each card by the builder's one call (the guide's Derived/Test/ToyasCard.lean, 'card_holds'). Laid BY PROGRAM, IN A SANDBOX (cutbox-door.mjs). By AI agents, Wed Nov 11 2026. No macro, syntax, notation, axiom, sorry.
-/
import Derived.Test.YtfmplneopmbfoaaDoorRows
import GoSem.ClaimSeven
namespace Go.Proofs.YtfmplneopmbfoaaDoor
namespace Rows

/-- THE TIED CARD OF 'laws.FnAssigned'. -/
def fnAssignedCard : Claim7 := { stood := { row := fnAssignedRow, standIns := [], harness := (true, "5f072956968e0024543ef3fc2be20dc11791f596af4f1a3cef80ceb249e7764b"), looks := false }, kinds := [], alts := [], laidByText := true, laidKinds := [.data], laidTests := true, laidLooks := .later }
def FnAssignedCardSaid : Prop := Claim7.holds Tryd.pinned (.plain (OpenSpec.ofChange fnAssignedSpec)) fnAssignedCard

/-- THE TIED CARD OF 'laws.FnSpilled'. -/
def fnSpilledCard : Claim7 := { stood := { row := fnSpilledRow, standIns := [], harness := (true, "5f072956968e0024543ef3fc2be20dc11791f596af4f1a3cef80ceb249e7764b"), looks := false }, kinds := [], alts := [], laidByText := true, laidKinds := [.data], laidTests := true, laidLooks := .later }
def FnSpilledCardSaid : Prop := Claim7.holds Tryd.pinned (.plain (OpenSpec.ofChange fnSpilledSpec)) fnSpilledCard

/-- THE TIED CARD OF 'laws.FnExactAssignRegisters'. -/
def fnExactAssignRegistersCard : Claim7 := { stood := { row := fnExactAssignRegistersRow, standIns := [], harness := (true, "5f072956968e0024543ef3fc2be20dc11791f596af4f1a3cef80ceb249e7764b"), looks := false }, kinds := [], alts := [], laidByText := true, laidKinds := [.data], laidTests := true, laidLooks := .later }
def FnExactAssignRegistersCardSaid : Prop := Claim7.holds Tryd.pinned (.plain (OpenSpec.ofChange fnExactAssignRegistersSpec)) fnExactAssignRegistersCard

/-- THE TIED CARD OF 'laws.FnExactFewestSpills'. -/
def fnExactFewestSpillsCard : Claim7 := { stood := { row := fnExactFewestSpillsRow, standIns := [], harness := (true, "5f072956968e0024543ef3fc2be20dc11791f596af4f1a3cef80ceb249e7764b"), looks := false }, kinds := [], alts := [], laidByText := true, laidKinds := [.data], laidTests := true, laidLooks := .later }
def FnExactFewestSpillsCardSaid : Prop := Claim7.holds Tryd.pinned (.plain (OpenSpec.ofChange fnExactFewestSpillsSpec)) fnExactFewestSpillsCard

/-- THE SECOND FORM's CARD OF 'laws.FnAssigned'. -/
def fnAssignedUptoCard : Claim7 := { stood := { row := fnAssignedUptoRow, standIns := [], harness := (true, "5f072956968e0024543ef3fc2be20dc11791f596af4f1a3cef80ceb249e7764b"), looks := false }, kinds := [], alts := [], laidByText := true, laidKinds := [.data], laidTests := true, laidLooks := .later }
def FnAssignedUptoCardSaid : Prop := Claim7.holds Tryd.pinned (.plain (OpenSpec.upto fnAssignedSpec)) fnAssignedUptoCard

/-- THE SECOND FORM's CARD OF 'laws.FnSpilled'. -/
def fnSpilledUptoCard : Claim7 := { stood := { row := fnSpilledUptoRow, standIns := [], harness := (true, "5f072956968e0024543ef3fc2be20dc11791f596af4f1a3cef80ceb249e7764b"), looks := false }, kinds := [], alts := [], laidByText := true, laidKinds := [.data], laidTests := true, laidLooks := .later }
def FnSpilledUptoCardSaid : Prop := Claim7.holds Tryd.pinned (.plain (OpenSpec.upto fnSpilledSpec)) fnSpilledUptoCard

/-- THE SECOND FORM's CARD OF 'laws.FnExactAssignRegisters'. -/
def fnExactAssignRegistersUptoCard : Claim7 := { stood := { row := fnExactAssignRegistersUptoRow, standIns := [], harness := (true, "5f072956968e0024543ef3fc2be20dc11791f596af4f1a3cef80ceb249e7764b"), looks := false }, kinds := [], alts := [], laidByText := true, laidKinds := [.data], laidTests := true, laidLooks := .later }
def FnExactAssignRegistersUptoCardSaid : Prop := Claim7.holds Tryd.pinned (.plain (OpenSpec.upto fnExactAssignRegistersSpec)) fnExactAssignRegistersUptoCard

/-- THE SECOND FORM's CARD OF 'laws.FnExactFewestSpills'. -/
def fnExactFewestSpillsUptoCard : Claim7 := { stood := { row := fnExactFewestSpillsUptoRow, standIns := [], harness := (true, "5f072956968e0024543ef3fc2be20dc11791f596af4f1a3cef80ceb249e7764b"), looks := false }, kinds := [], alts := [], laidByText := true, laidKinds := [.data], laidTests := true, laidLooks := .later }
def FnExactFewestSpillsUptoCardSaid : Prop := Claim7.holds Tryd.pinned (.plain (OpenSpec.upto fnExactFewestSpillsSpec)) fnExactFewestSpillsUptoCard
end Rows
end Go.Proofs.YtfmplneopmbfoaaDoor
