/-
  Rows that are as many vectors as each has lanes: the code's and the model's test.
-/
import Derived.Test.YtokdddkbpmcfgaaDoorVecW
import Derived.Test.YtokdddkbpmcfgaaDoorCpy
import Derived.Test.YtokdddkbpmcfgaaDoorLstRW
import Derived.Test.YtokdddkbpmcfgaaDoorTrM
namespace Go.Proofs.YtokdddkbpmcfgaaDoor.Wds
open Go.RowKit
set_option linter.unusedVariables false

/-- The first row that a test does not accept. -/
def BadR (p : List Int → Bool) (zss : List (List Int)) (w : World) (e : Ending) (w' : World) : Prop :=
  ((e = .returned (.int .i64 (-1)) ∧ ∀ j, j < zss.length → p (zss.getD j []) = true) ∨ ∃ k : Nat, k < zss.length ∧ e = .returned (.int .i64 (k : Int)) ∧ p (zss.getD k []) = false) ∧ Below w.heap.size w w'
theorem allR_of {p : List Int → Bool} {zss : List (List Int)} (h : ∀ j, j < zss.length → p (zss.getD j []) = true) : zss.all p = true := by
  rw [List.all_eq_true]
  intro x hx
  obtain ⟨j, hj, rfl⟩ := List.getElem_of_mem hx
  have := h j hj
  rwa [List.getD_eq_getElem?_getD, List.getElem?_eq_getElem hj] at this
theorem allR_not {p : List Int → Bool} {zss : List (List Int)} {k : Nat} (hk : k < zss.length) (h : p (zss.getD k []) = false) : zss.all p = false := by
  rw [List.getD_eq_getElem?_getD, List.getElem?_eq_getElem hk] at h
  exact Bool.eq_false_iff.2 fun hh => by
    have := (List.all_eq_true.1 hh) _ (List.getElem_mem hk)
    simp at h
    rw [h] at this; cases this
end Go.Proofs.YtokdddkbpmcfgaaDoor.Wds
