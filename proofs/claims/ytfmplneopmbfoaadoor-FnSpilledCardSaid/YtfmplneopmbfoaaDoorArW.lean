/-
  Ranges get registers exactly if their width is at most their number; ranges that meet get different ones. Plain mathematics.
-/
import Derived.Test.YtfmplneopmbfoaaDoorArM
import Derived.Test.YtfmplneopmbfoaaDoorPrM
set_option linter.unusedVariables false
namespace Ar
open Rg
theorem cnt_all {p : Nat → Bool} {t m : Nat} (h : ∀ j, j < t → p j = true) (ht : t ≤ m) : t ≤ cnt p m := by
  induction t generalizing m with
  | zero => exact Nat.zero_le _
  | succ t ih =>
    obtain ⟨d, rfl⟩ : ∃ d, m = (t + 1) + d := ⟨m - (t + 1), by omega⟩
    rw [cnt_add, cnt]
    have := ih (m := t) (fun j hj => h j (by omega)) (Nat.le_refl _)
    rw [h t (by omega), if_pos rfl]; omega
theorem cnt_mono {p q : Nat → Bool} {n : Nat} (h : ∀ k, k < n → p k = true → q k = true) : cnt p n ≤ cnt q n := by
  induction n with
  | zero => exact Nat.le_refl _
  | succ n ih =>
    rw [cnt, cnt]
    have := ih fun k hk => h k (by omega)
    have h2 := h n (by omega)
    cases hp : p n <;> cases hq : q n <;> simp_all <;> omega
theorem pop_or_le (s g : Nat) : pop (s ||| 2 ^ g) ≤ pop s + 1 := by
  unfold pop
  cases hb : s.testBit g
  · have := cnt_one (fun _ => true) s.testBit g hb 32
    have e : cnt (s ||| 2 ^ g).testBit 32 = cnt (fun k => true && (s.testBit k || decide (k = g))) 32 := cnt_congr fun k _ => by
      rw [Nat.testBit_or, Sc.tb_pow, Bool.true_and]
      congr 1
      rw [decide_eq_decide]; exact ⟨fun h => h.symm, fun h => h.symm⟩
    rw [e, this]
    have e2 : cnt (fun k => true && s.testBit k) 32 = cnt s.testBit 32 := cnt_congr fun k _ => by simp
    rw [e2]
    split <;> omega
  · rw [(Sc.or_pow_eq s g).2 hb]; omega
theorem pop_or_new {s g : Nat} (hb : s.testBit g = false) (hg : g < 32) : pop (s ||| 2 ^ g) = pop s + 1 := by
  unfold pop
  have := cnt_one (fun _ => true) s.testBit g hb 32
  have e : cnt (s ||| 2 ^ g).testBit 32 = cnt (fun k => true && (s.testBit k || decide (k = g))) 32 := cnt_congr fun k _ => by
    rw [Nat.testBit_or, Sc.tb_pow, Bool.true_and]
    congr 1
    rw [decide_eq_decide]; exact ⟨fun h => h.symm, fun h => h.symm⟩
  rw [e, this]
  have e2 : cnt (fun k => true && s.testBit k) 32 = cnt s.testBit 32 := cnt_congr fun k _ => by simp
  rw [e2, if_pos ⟨hg, rfl⟩]
theorem tkn_pop (rs : List R) (L : List Nat) (g : Nat → Nat) (m k : Nat) : pop (tkn rs L g m k) ≤ cnt (fun j => meets (nth rs (L.getD m 0)) (nth rs (L.getD j 0))) k := by
  induction k with
  | zero => simp [tkn, pop, cnt]
  | succ k ih =>
    rw [tkn, cnt]
    split
    next h => have := pop_or_le (tkn rs L g m k) (g k); omega
    next h => omega
theorem lm_pop {s b : Nat} (hb : b < 32) (h : s.testBit b = false) : lm s ≤ pop s := by
  obtain ⟨h1, _, h3⟩ := lm_spec hb h
  exact cnt_all h3 (by omega)
/-- Counted by their places in the order. -/
theorem cnt_ord (rs : List R) (q : Nat → Bool) (n : Nat) : cnt (fun j => q ((ord rs n).getD j 0)) n = cnt q n := by
  have hl := ord_len rs n
  have hnd : ((ord rs n).map Int.ofNat).Nodup := by
    have hs : ((ord rs n).map Int.ofNat).Pairwise (· ≠ ·) := by
      refine List.Pairwise.map _ (fun a b hab e => ?_) (ord_sorted rs n)
      have : a = b := Int.ofNat.inj e
      subst this
      exact bef_irr hab
    exact hs
  have h := cnt_list q n ((ord rs n).map Int.ofNat) hnd (by
    intro x hx
    obtain ⟨k, hk, rfl⟩ := List.mem_map.1 hx
    have := (ord_mem rs n k).1 hk
    exact ⟨Int.natCast_nonneg k, by show (k : Int) < n; omega⟩)
  rw [List.length_map, hl] at h
  have e1 : cnt (fun k => q k && ((ord rs n).map Int.ofNat).contains (k : Int)) n = cnt q n := cnt_congr fun k hk => by
    have : ((ord rs n).map Int.ofNat).contains (k : Int) = true := by
      rw [List.contains_iff_mem, List.mem_map]; exact ⟨k, (ord_mem rs n k).2 hk, rfl⟩
    rw [this, Bool.and_true]
  rw [← e1, h]
  refine cnt_congr fun j hj => ?_
  rw [List.getD_eq_getElem?_getD, List.getD_eq_getElem?_getD, List.getElem?_map, List.getElem?_eq_getElem (by omega)]
  rfl
theorem le_widAt {rs : List R} {i k : Nat} (h : i < k) : cnt (inAt rs i) rs.length ≤ widAt rs k := by
  induction k with
  | zero => omega
  | succ k ih =>
    rw [widAt]
    by_cases e : i = k
    · subst e; omega
    · have := ih (by omega); omega
theorem widAt_of {rs : List R} {k b : Nat} (h : ∀ i, i < k → cnt (inAt rs i) rs.length ≤ b) : widAt rs k ≤ b := by
  induction k with
  | zero => exact Nat.zero_le _
  | succ k ih =>
    rw [widAt]
    have := ih fun i hi => h i (by omega)
    have := h k (by omega)
    omega
theorem ok_at {rs : List R} (hv : valid rs = true) {k : Nat} (hk : k < rs.length) : (nth rs k).f < (nth rs k).t := (ok_iff.1 (ok_of_valid hv hk)).2.1
theorem meets_in {rs : List R} {j m : Nat} (hj : j < m) (hm : m < rs.length) (h : meets (nth rs ((ord rs rs.length).getD m 0)) (nth rs ((ord rs rs.length).getD j 0)) = true) :
    inAt rs ((ord rs rs.length).getD m 0) ((ord rs rs.length).getD j 0) = true := by
  simp only [meets, Bool.and_eq_true, decide_eq_true_eq] at h
  have := ord_le (rs := rs) (i := rs.length) (Nat.le_of_lt hj) hm
  unfold fr at this
  rw [inAt, has]
  exact decide_eq_true ⟨this, h.1⟩
theorem in_meets {rs : List R} {z a b : Nat} (h1 : inAt rs z a = true) (h2 : inAt rs z b = true) : meets (nth rs a) (nth rs b) = true := by
  rw [inAt, has] at h1 h2
  have h1 := of_decide_eq_true h1
  have h2 := of_decide_eq_true h2
  unfold meets
  rw [decide_eq_true (by omega), decide_eq_true (by omega)]; rfl
theorem rg_width {rs : List R} (hv : valid rs = true) : ∀ m, m < rs.length → rg rs (ord rs rs.length) m + 1 ≤ width rs := by
  have hn := len_of_valid hv
  have hw : width rs ≤ rs.length := widAt_le rs rs.length
  intro m
  induction m using Nat.strongRecOn with
  | _ m ih =>
    intro hm
    have hbit : (tkn rs (ord rs rs.length) (rg rs (ord rs rs.length)) m m).testBit 12 = false := by
      cases e : (tkn rs (ord rs rs.length) (rg rs (ord rs rs.length)) m m).testBit 12
      · rfl
      · obtain ⟨j, h1, _, h3⟩ := (tb_tkn _ _ _ _ _ _).1 e
        have := ih j h1 (by omega)
        omega
    have h1 := lm_pop (by decide) hbit
    rw [← rg_eq] at h1
    have h2 := tkn_pop rs (ord rs rs.length) (rg rs (ord rs rs.length)) m m
    have h3 := cnt_ord rs (inAt rs ((ord rs rs.length).getD m 0)) rs.length
    have h4 := le_widAt (rs := rs) (ord_at_lt (rs := rs) hm)
    have h5 : cnt (fun j => meets (nth rs ((ord rs rs.length).getD m 0)) (nth rs ((ord rs rs.length).getD j 0))) m + 1 ≤ cnt (fun j => inAt rs ((ord rs rs.length).getD m 0) ((ord rs rs.length).getD j 0)) rs.length := by
      obtain ⟨d, hd⟩ : ∃ d, rs.length = (m + 1) + d := ⟨rs.length - (m + 1), by omega⟩
      have key : cnt (fun j => inAt rs ((ord rs rs.length).getD m 0) ((ord rs rs.length).getD j 0)) rs.length = cnt (fun j => inAt rs ((ord rs rs.length).getD m 0) ((ord rs rs.length).getD j 0)) ((m + 1) + d) := by rw [← hd]
      rw [key, cnt_add, cnt]
      have a1 := cnt_mono (n := m) (fun j hj h => meets_in (rs := rs) hj hm h)
      have a2 : inAt rs ((ord rs rs.length).getD m 0) ((ord rs rs.length).getD m 0) = true := by
        rw [inAt, has]; exact decide_eq_true ⟨Int.le_refl _, ok_at hv (ord_at_lt hm)⟩
      rw [a2, if_pos rfl]
      omega
    unfold width
    omega
theorem rg_ne {rs : List R} (hv : valid rs = true) {j m : Nat} (hj : j < m) (hm : m < rs.length) (h : meets (nth rs ((ord rs rs.length).getD m 0)) (nth rs ((ord rs rs.length).getD j 0)) = true) : rg rs (ord rs rs.length) m ≠ rg rs (ord rs rs.length) j := by
  intro e
  have hn := len_of_valid hv
  have hw : width rs ≤ rs.length := widAt_le rs rs.length
  have hbit : (tkn rs (ord rs rs.length) (rg rs (ord rs rs.length)) m m).testBit 12 = false := by
    cases e : (tkn rs (ord rs rs.length) (rg rs (ord rs rs.length)) m m).testBit 12
    · rfl
    · obtain ⟨j, h1, _, h3⟩ := (tb_tkn _ _ _ _ _ _).1 e
      have := rg_width hv j (by omega)
      omega
  have h1 := (lm_spec (by decide) hbit).2.1
  rw [← rg_eq, e] at h1
  rw [(tb_tkn _ _ _ _ _ _).2 ⟨j, hj, h, rfl⟩] at h1
  cases h1
/-- The registers of the crowd at z, of those at the first k places. -/
def used (rs : List R) (z : Nat) : Nat → Nat
  | 0 => 0
  | k + 1 => if inAt rs z ((ord rs rs.length).getD k 0) then used rs z k ||| 2 ^ rg rs (ord rs rs.length) k else used rs z k
theorem tb_used (rs : List R) (z k b : Nat) : (used rs z k).testBit b = true ↔ ∃ j, j < k ∧ inAt rs z ((ord rs rs.length).getD j 0) = true ∧ rg rs (ord rs rs.length) j = b := by
  induction k with
  | zero => simp [used]
  | succ k ih =>
    rw [used]
    split
    next hm =>
      rw [Nat.testBit_or, Sc.tb_pow, Bool.or_eq_true, ih]
      constructor
      · rintro (⟨j, h1, h2⟩ | h)
        · exact ⟨j, by omega, h2⟩
        · exact ⟨k, by omega, hm, by simpa using h⟩
      · rintro ⟨j, h1, h2, h3⟩
        rcases Nat.lt_or_ge j k with h | h
        · exact .inl ⟨j, h, h2, h3⟩
        · obtain rfl : j = k := by omega
          exact .inr (decide_eq_true h3)
    next hm =>
      rw [ih]
      constructor
      · rintro ⟨j, h1, h2⟩; exact ⟨j, by omega, h2⟩
      · rintro ⟨j, h1, h2, h3⟩
        rcases Nat.lt_or_ge j k with h | h
        · exact ⟨j, h, h2, h3⟩
        · obtain rfl : j = k := by omega
          exact absurd h2 hm
theorem used_pop {rs : List R} (hv : valid rs = true) (z : Nat) : ∀ k, k ≤ rs.length → pop (used rs z k) = cnt (fun j => inAt rs z ((ord rs rs.length).getD j 0)) k := by
  have hn := len_of_valid hv
  have hw : width rs ≤ rs.length := widAt_le rs rs.length
  intro k
  induction k with
  | zero => intro _; simp [used, pop, cnt]
  | succ k ih =>
    intro hk
    rw [used, cnt, ← ih (by omega)]
    split
    next h =>
      refine pop_or_new ?_ (by have := rg_width hv k (by omega); omega)
      cases e : (used rs z k).testBit (rg rs (ord rs rs.length) k)
      · rfl
      · obtain ⟨j, h1, h2, h3⟩ := (tb_used _ _ _ _).1 e
        exact absurd h3.symm (rg_ne hv h1 (by omega) (in_meets h h2))
    next h => omega
theorem bad_iff {rs : List R} {r : Int} (hv : valid rs = true) (h0 : 0 ≤ r) : badAt rs r rs.length = !decide ((width rs : Int) ≤ r) := by
  by_cases h : (width rs : Int) ≤ r
  · rw [decide_eq_true h]
    cases e : badAt rs r rs.length
    · rfl
    · rw [badAt, List.any_eq_true] at e
      obtain ⟨k, hk, h2⟩ := e
      have h2 := of_decide_eq_true h2
      have := rg_width hv k (List.mem_range.1 hk)
      omega
  · rw [decide_eq_false h]
    cases e : badAt rs r rs.length
    · exfalso
      apply h
      have hn := len_of_valid hv
      have hw : width rs ≤ rs.length := widAt_le rs rs.length
      obtain ⟨b, rfl⟩ := Int.eq_ofNat_of_zero_le h0
      have : width rs ≤ b := by
        refine widAt_of fun z hz => ?_
        rw [← cnt_ord rs (inAt rs z) rs.length, ← used_pop hv z _ (Nat.le_refl _)]
        by_cases hb : b ≤ 32
        · refine pop_le hb ?_
          refine Nat.lt_pow_two_of_testBit _ fun i hi => ?_
          cases e2 : (used rs z rs.length).testBit i
          · rfl
          · obtain ⟨j, h1, _, h3⟩ := (tb_used _ _ _ _).1 e2
            have := bad_no e h1
            omega
        · have : pop (used rs z rs.length) ≤ 32 := cnt_le _ _
          omega
      omega
    · rfl
end Ar
