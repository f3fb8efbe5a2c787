/-
  Plain mathematics of vectors, more: a list that is written over lane by lane; the conditions of the chapter's functions in both spellings.
-/
import Derived.Test.YtfmplneopmbfoaaLan
namespace Ln
set_option linter.unusedVariables false

/-- ys, of which the first k lanes are written over by f. -/
def over (f : Nat → Int) (ys : List Int) (k : Nat) : List Int := tab (fun i => if i < k then f i else ys.getD i 0) ys.length
theorem over_len (f : Nat → Int) (ys : List Int) (k : Nat) : (over f ys k).length = ys.length := tab_len _ _
theorem over_zero (f : Nat → Int) (ys : List Int) : over f ys 0 = ys := by
  unfold over
  rw [tab_congr (g := fun i => ys.getD i 0) (fun i _ => by simp)]
  exact tab_self ys
theorem over_all (f : Nat → Int) (ys : List Int) : over f ys ys.length = tab f ys.length := by
  unfold over
  exact tab_congr fun i hi => by rw [if_pos hi]
theorem over_at (f : Nat → Int) (ys : List Int) (k i : Nat) (hi : i < ys.length) : (over f ys k).getD i 0 = if i < k then f i else ys.getD i 0 := tab_getD _ _ _ hi
theorem over_set (f : Nat → Int) (ys : List Int) (k : Nat) (h : k < ys.length) : (over f ys k).set k (f k) = over f ys (k + 1) := by
  apply List.ext_getElem
  · simp [over_len]
  · intro i h1 h2
    rw [over_len] at h2
    rw [List.getElem_set]
    by_cases hik : k = i
    · subst hik
      rw [if_pos rfl]
      have := over_at f ys (k + 1) k h2
      rw [if_pos (by omega)] at this
      rw [List.getD_eq_getElem?_getD, List.getElem?_eq_getElem (by rw [over_len]; exact h2)] at this
      exact this.symm
    · rw [if_neg hik]
      have e1 := over_at f ys k i h2
      have e2 := over_at f ys (k + 1) i h2
      rw [List.getD_eq_getElem?_getD, List.getElem?_eq_getElem (by rw [over_len]; exact h2)] at e1 e2
      have e3 : (if i < k then f i else ys.getD i 0) = (if i < k + 1 then f i else ys.getD i 0) := by
        by_cases hlt : i < k
        · rw [if_pos hlt, if_pos (by omega)]
        · rw [if_neg hlt, if_neg (by omega)]
      exact (Option.getD_some ▸ e1).trans (e3.trans (Option.getD_some ▸ e2).symm)
theorem over_same (f : Nat → Int) (ys : List Int) (k : Nat) (h : k < ys.length) (he : f k = ys.getD k 0) : over f ys k = over f ys (k + 1) := by
  unfold over
  refine tab_congr fun i hi => ?_
  by_cases hlt : i < k
  · rw [if_pos hlt, if_pos (by omega)]
  · by_cases hik : i = k
    · subst hik; rw [if_neg hlt, if_pos (by omega), he]
    · rw [if_neg hlt, if_neg (by omega)]
theorem both_len {b : Int} {xs ys : List Int} (h : both b xs ys = true) : xs.length = ys.length ∧ vec b xs = true ∧ vec b ys = true := by
  unfold both at h; simp only [Bool.and_eq_true, beq_iff_eq] at h; exact ⟨h.2, h.1.1, h.1.2⟩
theorem masked_len {b : Int} {ms xs : List Int} (h : masked b ms xs = true) : ms.length = xs.length ∧ vec b xs = true ∧ msk ms = true := by
  unfold masked at h; simp only [Bool.and_eq_true, beq_iff_eq] at h; exact ⟨h.2, h.1.1, h.1.2⟩
theorem sel_cond (b : Int) (ms xs ys : List Int) : (both b xs ys && (msk ms && ms.length == xs.length)) = (masked b ms xs && both b xs ys) := by
  unfold both masked
  cases vec b xs <;> cases vec b ys <;> cases msk ms <;> simp [Bool.and_comm]
theorem masked_cond (b : Int) (ms xs : List Int) : masked b ms xs = (vec b xs && (msk ms && ms.length == xs.length)) := by
  unfold masked; rw [Bool.and_assoc]
theorem ans_yes {c : Bool} (zs : List Int) (h : c = true) : ans c zs = (zs, true) := by rw [h]; rfl
theorem ans_no {c : Bool} (zs : List Int) (h : c = false) : ans c zs = no := by rw [h]; rfl
end Ln
