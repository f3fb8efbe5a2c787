/-
  Plain mathematics of squares: rows, transposed rows, rows with lanes exchanged at a distance. No program, no memory.
-/
import Derived.Test.YtigodbilfjppbaaLan2
import Derived.Test.YtigodbilfjppbaaRwM
namespace Ln
set_option linter.unusedVariables false
def rowOk (b : Int) (n : Nat) (z : List Int) : Bool := z.length == n && vec b z
def rowsOk (b : Int) (zss : List (List Int)) : Bool := decide (0 < zss.length) && zss.all (rowOk b zss.length)
def el (zss : List (List Int)) (i k : Nat) : Int := (zss.getD i []).getD k 0
def colL (zss : List (List Int)) (i : Nat) : List Int := tab (fun k => el zss k i) zss.length
def trL (zss : List (List Int)) : List (List Int) := tabR (colL zss) zss.length
def ansR (c : Bool) (zss : List (List Int)) : List (List Int) × Bool := if c then (zss, true) else ([], false)
def noR : List (List Int) × Bool := ([], false)
def transpose (b : Int) (zss : List (List Int)) : List (List Int) × Bool := ansR (rowsOk b zss) (trL zss)
theorem rowsOk_at {b : Int} {zss : List (List Int)} (h : rowsOk b zss = true) : lanes zss.length = true ∧ 0 < zss.length ∧ ∀ k, k < zss.length → (zss.getD k []).length = zss.length ∧ vec b (zss.getD k []) = true := by
  simp only [rowsOk, Bool.and_eq_true, decide_eq_true_eq, List.all_eq_true] at h
  have key : ∀ k, k < zss.length → (zss.getD k []).length = zss.length ∧ vec b (zss.getD k []) = true := by
    intro k hk
    have := h.2 _ (List.getElem_mem hk)
    rw [List.getD_eq_getElem?_getD, List.getElem?_eq_getElem hk]
    simpa [rowOk] using this
  refine ⟨?_, h.1, key⟩
  have h0 := key 0 h.1
  have := vec_len h0.2
  rw [h0.1] at this
  rcases this with e | e | e | e <;> rw [e] <;> decide
theorem rowsOk_lanes (b : Int) (zss : List (List Int)) : rowsOk b zss = (lanes zss.length && zss.all (rowOk b zss.length)) := by
  cases h : rowsOk b zss
  · cases hl : lanes zss.length
    · rfl
    · have h0 : 0 < zss.length := by have := lanes_cases hl; omega
      unfold rowsOk at h
      rw [decide_eq_true h0, Bool.true_and] at h
      rw [h]; rfl
  · obtain ⟨h1, h2, h3⟩ := rowsOk_at h
    unfold rowsOk at h
    rw [decide_eq_true h2, Bool.true_and] at h
    rw [h1, h]; rfl
theorem rowsOk_not {b : Int} {zss : List (List Int)} {k : Nat} (hk : k < zss.length) (h : rowOk b zss.length (zss.getD k []) = false) : rowsOk b zss = false := by
  cases e : rowsOk b zss
  · rfl
  · obtain ⟨_, _, h3⟩ := rowsOk_at e
    obtain ⟨h4, h5⟩ := h3 k hk
    rw [rowOk, h4, h5] at h
    simp at h
theorem colL_len (zss : List (List Int)) (i : Nat) : (colL zss i).length = zss.length := tab_len _ _
theorem trL_len (zss : List (List Int)) : (trL zss).length = zss.length := tabR_len _ _
theorem trL_at (zss : List (List Int)) (i : Nat) (h : i < zss.length) : (trL zss).getD i [] = colL zss i := tabR_getD _ _ _ h
theorem el_tr (zss : List (List Int)) (i k : Nat) (hi : i < zss.length) (hk : k < zss.length) : el (trL zss) i k = el zss k i := by
  unfold el
  rw [trL_at zss i hi]
  exact tab_getD _ _ _ hk
theorem totL_sq {b : Int} {zss : List (List Int)} (h : rowsOk b zss = true) : totL zss ≤ 1048576 := by
  obtain ⟨h1, h2, h3⟩ := rowsOk_at h
  have h4 := sumL_tabR (fun i => zss.getD i []) zss.length zss.length (fun i hi => (h3 i hi).1)
  rw [tabR_self] at h4
  unfold totL
  rw [h4]
  have := lanes_cases h1
  have : zss.length = 2 ∨ zss.length = 4 ∨ zss.length = 8 ∨ zss.length = 16 := by omega
  rcases this with e | e | e | e <;> rw [e] <;> decide
theorem totL_tr {b : Int} {zss : List (List Int)} (h : rowsOk b zss = true) : totL (trL zss) ≤ 1048576 := by
  obtain ⟨h1, h2, h3⟩ := rowsOk_at h
  have h4 := sumL_tabR (colL zss) zss.length zss.length (fun i hi => colL_len zss i)
  unfold totL
  rw [trL_len]
  unfold trL
  rw [h4]
  have := lanes_cases h1
  have : zss.length = 2 ∨ zss.length = 4 ∨ zss.length = 8 ∨ zss.length = 16 := by omega
  rcases this with e | e | e | e <;> rw [e] <;> decide
theorem tot_transpose (b : Int) (zss : List (List Int)) : totL (transpose b zss).1 ≤ 1048576 := by
  unfold transpose ansR
  cases h : rowsOk b zss
  · rw [if_neg (by simp)]; decide
  · rw [if_pos rfl]; exact totL_tr h
end Ln
