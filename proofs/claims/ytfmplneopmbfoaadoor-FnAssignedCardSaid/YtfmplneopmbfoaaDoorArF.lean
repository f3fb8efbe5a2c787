/-
  Registers that were assigned: each is one of those that are there, and ranges that meet have different ones. Plain mathematics.
-/
import Derived.Test.YtfmplneopmbfoaaDoorArW
set_option linter.unusedVariables false
namespace Ar
open Rg
theorem meets_comm (x y : R) : meets x y = meets y x := by unfold meets; rw [Bool.and_comm]
theorem asd_at {rs : List R} {i : Nat} (hi : i < rs.length) : ∃ m, m < rs.length ∧ (ord rs rs.length).getD m 0 = i ∧ (assigned rs).getD i 0 = (rg rs (ord rs rs.length) m : Int) := by
  obtain ⟨m, hm, rfl⟩ := ord_has (rs := rs) hi
  exact ⟨m, hm, rfl, asg_at rs 0 (Nat.le_refl _) hm⟩
theorem asd_ok {rs : List R} {r : Int} {i : Nat} (hb : badAt rs r rs.length = false) (hi : i < rs.length) : 0 ≤ (assigned rs).getD i 0 ∧ (assigned rs).getD i 0 < r := by
  obtain ⟨m, hm, _, e⟩ := asd_at hi
  rw [e]
  exact ⟨Int.natCast_nonneg _, bad_no hb hm⟩
theorem asd_ne {rs : List R} (hv : valid rs = true) {i k : Nat} (hi : i < rs.length) (hk : k < rs.length) (hne : i ≠ k) (h : meets (nth rs i) (nth rs k) = true) : (assigned rs).getD i 0 ≠ (assigned rs).getD k 0 := by
  obtain ⟨m, hm, em, e⟩ := asd_at hi
  obtain ⟨j, hj, ej, e'⟩ := asd_at hk
  rw [e, e']
  rcases Nat.lt_trichotomy m j with hlt | heq | hlt
  · have := rg_ne hv hlt hj (by rw [ej, em, meets_comm]; exact h)
    omega
  · subst heq
    exact absurd (em.symm.trans ej) hne
  · have := rg_ne hv hlt hm (by rw [ej, em]; exact h)
    omega
theorem assign_if {rs : List R} {r : Int} (hv : valid rs = true) (h0 : 0 ≤ r) (h1 : r ≤ 12) : assign rs r = if (width rs : Int) ≤ r then (assigned rs, true) else ([], false) := by
  have hr : Sp.isReg r = true := decide_eq_true ⟨h0, h1⟩
  rw [assign, hv, hr, bad_iff hv h0, Bool.true_and, Bool.true_and, Bool.not_not]
  by_cases h : (width rs : Int) ≤ r
  · rw [decide_eq_true h, if_pos rfl, if_pos h]
  · rw [decide_eq_false h, if_neg (by simp), if_neg h]
theorem asd_len (rs : List R) : (assigned rs).length = rs.length := asg_len _ _ _ _
end Ar
