/-
  Without the fewest spills, ranges are no wider than there are registers, and without fewer of them they are. Plain mathematics.
-/
import Derived.Test.YtfmplneopmbfoaaDoorArW
set_option linter.unusedVariables false
namespace Sp
open Rg
/-- The ranges below k of which p holds. -/
def keep (rs : List R) (p : Nat → Bool) : Nat → List R
  | 0 => []
  | k + 1 => if p k then keep rs p k ++ [nth rs k] else keep rs p k
theorem keep_len (rs : List R) (p : Nat → Bool) (k : Nat) : (keep rs p k).length = cnt p k := by
  induction k with
  | zero => rfl
  | succ k ih =>
    rw [keep, cnt, ← ih]
    split <;> simp
theorem nth_snoc (l : List R) (x : R) (j : Nat) : nth (l ++ [x]) j = if j < l.length then nth l j else if j = l.length then x else zero := by
  unfold nth
  rw [List.getD_eq_getElem?_getD]
  by_cases h : j < l.length
  · rw [if_pos h, List.getElem?_append_left h, ← List.getD_eq_getElem?_getD]
  · rw [if_neg h, List.getElem?_append_right (by omega)]
    by_cases e : j = l.length
    · rw [if_pos e, e, Nat.sub_self]; rfl
    · rw [if_neg e, List.getElem?_eq_none (by simp; omega)]; rfl
theorem keep_cnt (rs : List R) (p : Nat → Bool) (q : R → Bool) (k : Nat) : cnt (fun j => q (nth (keep rs p k) j)) (keep rs p k).length = cnt (fun j => p j && q (nth rs j)) k := by
  induction k with
  | zero => rfl
  | succ k ih =>
    rw [keep, cnt, ← ih]
    split
    next h =>
      rw [List.length_append, List.length_singleton, cnt, h, Bool.true_and]
      have e1 : nth (keep rs p k ++ [nth rs k]) (keep rs p k).length = nth rs k := by
        rw [nth_snoc, if_neg (Nat.lt_irrefl _), if_pos rfl]
      rw [e1]
      congr 1
      exact cnt_congr fun j hj => by rw [nth_snoc, if_pos hj]
    next h =>
      have h' : p k = false := by simpa using h
      rw [h']; simp
theorem keep_mem {rs : List R} {p : Nat → Bool} {k j : Nat} (hj : j < (keep rs p k).length) : ∃ i, i < k ∧ p i = true ∧ nth (keep rs p k) j = nth rs i := by
  induction k with
  | zero => simp [keep] at hj
  | succ k ih =>
    rw [keep] at hj ⊢
    by_cases h : p k = true
    · rw [if_pos h] at hj ⊢
      rw [nth_snoc]
      by_cases e : j < (keep rs p k).length
      · rw [if_pos e]
        obtain ⟨i, h1, h2⟩ := ih e
        exact ⟨i, by omega, h2⟩
      · rw [List.length_append, List.length_singleton] at hj
        rw [if_neg e, if_pos (by omega)]
        exact ⟨k, by omega, h, rfl⟩
    · rw [if_neg h] at hj ⊢
      obtain ⟨i, h1, h2⟩ := ih hj
      exact ⟨i, by omega, h2⟩
theorem keep_has {rs : List R} {p : Nat → Bool} {k i : Nat} (hi : i < k) (hp : p i = true) : ∃ j, j < (keep rs p k).length ∧ nth (keep rs p k) j = nth rs i := by
  induction k with
  | zero => omega
  | succ k ih =>
    rw [keep]
    by_cases e : i = k
    · subst e
      rw [if_pos hp]
      exact ⟨(keep rs p i).length, by simp, by rw [nth_snoc, if_neg (by omega), if_pos rfl]⟩
    · obtain ⟨j, h1, h2⟩ := ih (by omega)
      split
      · exact ⟨j, by simp; omega, by rw [nth_snoc, if_pos h1]; exact h2⟩
      · exact ⟨j, h1, h2⟩
theorem keep_valid {rs : List R} (hv : valid rs = true) (p : Nat → Bool) : valid (keep rs p rs.length) = true := by
  rw [valid_all fun j hj => ?_]
  · have h1 := cnt_le p rs.length
    have h2 := len_of_valid hv
    rw [keep_len]; exact decide_eq_true (by omega)
  · obtain ⟨i, hi, _, e⟩ := keep_mem hj
    rw [e]; exact ok_of_valid hv hi
theorem wid_le_of {rs : List R} {s k b : Nat} (h : ∀ i, i < k → cnt (fun x => inAt rs i x && !s.testBit x) rs.length ≤ b) : wid rs s k ≤ b := by
  induction k with
  | zero => exact Nat.zero_le _
  | succ k ih =>
    rw [wid]
    have := ih fun i hi => h i (by omega)
    have := h k (by omega)
    omega
theorem le_wid {rs : List R} {s i k : Nat} (h : i < k) : cnt (fun x => inAt rs i x && !s.testBit x) rs.length ≤ wid rs s k := by
  induction k with
  | zero => omega
  | succ k ih =>
    rw [wid]
    by_cases e : i = k
    · subst e; omega
    · have := ih (by omega); omega
theorem keep_in (rs : List R) (p : Nat → Bool) {j i k : Nat} (e : nth (keep rs p k) j = nth rs i) : cnt (inAt (keep rs p k) j) (keep rs p k).length = cnt (fun x => p x && inAt rs i x) k := by
  have := keep_cnt rs p (fun y => has y (nth rs i).f) k
  refine Eq.trans (cnt_congr fun x hx => ?_) this
  rw [inAt, e]
theorem width_keep {rs : List R} {s : Nat} {p : Nat → Bool} (hp : ∀ k, k < rs.length → p k = !s.testBit k) : width (keep rs p rs.length) ≤ wid rs s rs.length := by
  refine Ar.widAt_of fun j hj => ?_
  obtain ⟨i, hi, _, e⟩ := keep_mem hj
  rw [keep_in rs p e]
  refine Nat.le_trans (Nat.le_of_eq (cnt_congr fun x hx => ?_)) (le_wid hi)
  rw [hp x hx, Bool.and_comm]
theorem top_of (f : Nat → Int) (p : Nat → Bool) : ∀ n, 0 < cnt p n → ∃ k, k < n ∧ p k = true ∧ ∀ j, j < n → p j = true → f j ≤ f k := by
  intro n
  induction n with
  | zero => intro h; simp [cnt] at h
  | succ n ih =>
    intro h
    rw [cnt] at h
    by_cases h0 : 0 < cnt p n
    · obtain ⟨k, h1, h2, h3⟩ := ih h0
      by_cases hn : p n = true
      · by_cases hf : f k ≤ f n
        · refine ⟨n, by omega, hn, fun j hj hjp => ?_⟩
          by_cases e : j = n
          · subst e; exact Int.le_refl _
          · have := h3 j (by omega) hjp; omega
        · refine ⟨k, by omega, h2, fun j hj hjp => ?_⟩
          by_cases e : j = n
          · subst e; omega
          · exact h3 j (by omega) hjp
      · refine ⟨k, by omega, h2, fun j hj hjp => ?_⟩
        by_cases e : j = n
        · subst e; exact absurd hjp hn
        · exact h3 j (by omega) hjp
    · have hn : p n = true := by
        cases e : p n
        · rw [e] at h; simp at h; omega
        · rfl
      have hz : cnt p n = 0 := by omega
      refine ⟨n, by omega, hn, fun j hj hjp => ?_⟩
      by_cases e : j = n
      · subst e; exact Int.le_refl _
      · exfalso
        have : ∀ m, m ≤ n → j < m → 0 < cnt p m := by
          intro m
          induction m with
          | zero => intro _ h; omega
          | succ m ihm =>
            intro h1 h2
            rw [cnt]
            by_cases e2 : j = m
            · subst e2; rw [if_pos hjp]; omega
            · have := ihm (by omega) (by omega); omega
        have := this n (Nat.le_refl _) (by omega)
        omega
theorem wid_keep {rs : List R} {s : Nat} {p : Nat → Bool} (hp : ∀ k, k < rs.length → p k = !s.testBit k) : wid rs s rs.length ≤ width (keep rs p rs.length) := by
  refine wid_le_of fun i hi => ?_
  by_cases h0 : 0 < cnt (fun x => inAt rs i x && !s.testBit x) rs.length
  · obtain ⟨k, hk, hpk, htop⟩ := top_of (fun x => (nth rs x).f) _ _ h0
    rw [Bool.and_eq_true] at hpk
    obtain ⟨j, hj, e⟩ := keep_has (rs := rs) (p := p) (k := rs.length) hk (by rw [hp k hk]; exact hpk.2)
    have h1 := Ar.le_widAt (rs := keep rs p rs.length) hj
    rw [keep_in rs p e] at h1
    refine Nat.le_trans (Ar.cnt_mono fun x hx hxp => ?_) h1
    have hle := htop x hx hxp
    rw [Bool.and_eq_true] at hxp
    rw [hp x hx, hxp.2, Bool.true_and]
    have q1 := hxp.1
    have q2 := hpk.1
    rw [inAt, has] at q1 q2 ⊢
    have q1 := of_decide_eq_true q1
    have q2 := of_decide_eq_true q2
    exact decide_eq_true ⟨hle, by omega⟩
  · omega
theorem pop_lt2 {s n : Nat} (hn : n ≤ 32) (h : s < 2 ^ n) : pop s = cnt s.testBit n := by
  unfold pop
  exact cnt_more hn fun k h1 _ => Nat.testBit_lt_two_pow (Nat.lt_of_lt_of_le h (Nat.pow_le_pow_right (by decide) h1))
theorem cnt_not (p : Nat → Bool) (n : Nat) : cnt (fun k => !p k) n + cnt p n = n := by
  induction n with
  | zero => rfl
  | succ n ih =>
    rw [cnt, cnt]
    cases h : p n <;> simp <;> omega
/-- The best set. -/
def top (rs : List R) (r : Int) : Nat := bst (okW rs r) (2 ^ rs.length - 1) (List.range (2 ^ rs.length))
theorem top_lt (rs : List R) (r : Int) : top rs r < 2 ^ rs.length := by
  have := Nat.two_pow_pos rs.length
  exact bst_lt (by omega) fun s hs => List.mem_range.1 hs
theorem wid_all {rs : List R} (k : Nat) (hk : k ≤ rs.length) : wid rs (2 ^ rs.length - 1) k = 0 := by
  have : wid rs (2 ^ rs.length - 1) k ≤ 0 := wid_le_of fun i hi => by
    rw [cnt_congr (q := fun _ => false) fun x hx => by rw [Nat.testBit_two_pow_sub_one, decide_eq_true hx]; simp]
    have : ∀ n, cnt (fun _ => false) n = 0 := by
      intro n
      induction n with
      | zero => rfl
      | succ n ih => rw [cnt, ih]; simp
    rw [this]; exact Nat.le_refl _
  omega
theorem top_ok {rs : List R} {r : Int} (hr : 0 ≤ r) : okW rs r (top rs r) = true := by
  rcases (bst_isB (okW rs r) (2 ^ rs.length - 1) (List.range (2 ^ rs.length))).mem with h | ⟨_, h⟩
  · unfold top
    rw [h, okW, wid_all _ (Nat.le_refl _)]
    exact decide_eq_true (by omega)
  · exact h
theorem top_few {rs : List R} {r : Int} (hn : rs.length ≤ 32) {s : Nat} (hs : s < 2 ^ rs.length) (hl : cnt s.testBit rs.length < (fewest rs r).length) : r < (wid rs s rs.length : Int) := by
  rcases Int.lt_or_le r (wid rs s rs.length : Int) with h | h
  · exact h
  · exfalso
    have h1 := (bst_isB (okW rs r) (2 ^ rs.length - 1) (List.range (2 ^ rs.length))).min s (.inr ⟨List.mem_range.2 hs, decide_eq_true h⟩)
    have e : (Sc.memsI s).length < (fewest rs r).length := by rw [mems_len, pop_lt2 hn hs]; exact hl
    unfold fewest at e
    rw [less, if_neg (by omega)] at h1
    exact absurd e (of_decide_eq_false h1)
theorem few_len {rs : List R} (hn : rs.length ≤ 32) (r : Int) : cnt (fun k => !(top rs r).testBit k) rs.length + (fewest rs r).length = rs.length := by
  have : (fewest rs r).length = cnt (top rs r).testBit rs.length := by
    show (Sc.memsI (top rs r)).length = _
    rw [mems_len, pop_lt2 hn (top_lt rs r)]
  rw [this]; exact cnt_not _ _
theorem few_has {rs : List R} (hn : rs.length ≤ 32) (r : Int) {k : Nat} (hk : k < rs.length) : (fewest rs r).contains (k : Int) = (top rs r).testBit k := by
  have := Sc.mem_memsI (s := top rs r) (n := (k : Int)) (by omega) (by omega)
  rw [Int.toNat_natCast] at this
  exact this
end Sp
