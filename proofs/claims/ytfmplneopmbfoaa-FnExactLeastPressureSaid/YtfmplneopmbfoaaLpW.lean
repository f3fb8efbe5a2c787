/-
  The order with the least pressure has it, and no order has a lesser one. Plain mathematics.
-/
import Derived.Test.YtfmplneopmbfoaaLpM
set_option linter.unusedVariables false
namespace Lp
open Tk
theorem ord_lt {us : List Nat} {zs : List Int} (h : ordU us zs = true) (k : Nat) (hk : k ≤ zs.length) : Sc.doneOf (zs.take k) < 2 ^ us.length := by
  refine Nat.lt_pow_two_of_testBit _ fun i hi => ?_
  have hr : ∀ x ∈ zs.take k, 0 ≤ x ∧ x < us.length := fun x hx => by
    obtain ⟨j, hj, hj2, rfl⟩ := mem_take hx
    exact okU_range (ordU_at h hj2)
  rw [Sc.tb_doneOf fun x hx => (hr x hx).1]
  cases e : (zs.take k).contains (i : Int)
  · rfl
  · have := hr _ (List.contains_iff_mem.1 e); omega
/-- The greatest of what is live behind the places from k on, d of them. -/
def sufM (us : List Nat) (zs : List Int) (k : Nat) : Nat → Nat
  | 0 => 0
  | d + 1 => max (liveU us (Sc.doneOf (zs.take k))) (sufM us zs (k + 1) d)
theorem suf_le {us : List Nat} {zs : List Int} (h : ordU us zs = true) : ∀ d k, k + d = zs.length + 1 → F us (Sc.doneOf (zs.take k)) ≤ sufM us zs k d ∨ d = 0 := by
  have hl := ordU_length h
  intro d
  induction d with
  | zero => intro k _; exact .inr rfl
  | succ d ih =>
    intro k hk
    left
    have hs := ord_lt h k (by omega)
    rw [sufM]
    refine (F_le_iff us hs).2 ⟨by omega, ?_⟩
    by_cases e : k = zs.length
    · left
      subst e
      have hnd := nodup_of_ord (fun k hk => ordU_at h hk) zs.length (Nat.le_refl _)
      rw [List.take_length] at hnd ⊢
      have hr : ∀ x ∈ zs, 0 ≤ x ∧ x < us.length := fun x hx => by
        obtain ⟨j, hj, rfl⟩ := List.getElem_of_mem hx
        have := okU_range (ordU_at h hj)
        rw [List.getD_eq_getElem?_getD, List.getElem?_eq_getElem hj] at this
        exact this
      refine Nat.eq_of_testBit_eq fun i => ?_
      rw [Sc.tb_doneOf fun x hx => (hr x hx).1, Nat.testBit_two_pow_sub_one]
      by_cases hi : i < us.length
      · rw [decide_eq_true hi]
        cases e2 : zs.contains (i : Int)
        · exfalso
          have h1 := Rg.cnt_list (fun k => decide (k ≠ i)) us.length zs hnd hr
          have h2 : Rg.cnt (fun j => decide ((zs.getD j 0).toNat ≠ i)) zs.length = Rg.cnt (fun _ => true) zs.length := Rg.cnt_congr fun j hj => by
            refine decide_eq_true fun e3 => ?_
            have hm : zs.getD j 0 ∈ zs := by rw [List.getD_eq_getElem?_getD, List.getElem?_eq_getElem hj]; exact List.getElem_mem hj
            have := hr _ hm
            rw [← List.contains_iff_mem, show zs.getD j 0 = (i : Int) by omega, e2] at hm
            cases hm
          have h3 : ∀ n, Rg.cnt (fun _ => true) n = n := by
            intro n
            induction n with
            | zero => rfl
            | succ n ih => rw [Rg.cnt, ih]; rfl
          rw [h2, h3] at h1
          have h4 : ∀ n, i < n → Rg.cnt (fun k => decide (k ≠ i) && zs.contains (k : Int)) n < n := by
            intro n
            induction n with
            | zero => intro hh; omega
            | succ n ih =>
              intro hh
              rw [Rg.cnt]
              by_cases e4 : n = i
              · subst e4
                rw [decide_eq_false (by simp), Bool.false_and]
                have := Rg.cnt_le (fun k => decide (k ≠ n) && zs.contains (k : Int)) n
                rw [if_neg (by decide)]; omega
              · have := ih (by omega)
                split <;> omega
          have := h4 us.length hi
          omega
        · rfl
      · rw [decide_eq_false hi]
        cases e2 : zs.contains (i : Int)
        · rfl
        · have := hr _ (List.contains_iff_mem.1 e2); omega
    · right
      have hok := ordU_at h (k := k) (by omega)
      have hrg := okU_range hok
      rw [okU, Bool.and_eq_true] at hok
      have h1 := minO_le_at (f := fun j => F us (Sc.doneOf (zs.take k) ||| 2 ^ j)) (r := 8) (n := us.length) (by omega) hok.2
      have h2 : Sc.doneOf (zs.take (k + 1)) = Sc.doneOf (zs.take k) ||| 2 ^ (zs.getD k 0).toNat := by
        rw [take_snoc (by omega), Sc.doneOf_snoc]; rfl
      have h1 : _ ≤ F us (Sc.doneOf (zs.take k) ||| 2 ^ (zs.getD k 0).toNat) := h1
      rw [← h2] at h1
      have h3 := ih (k + 1) (by omega)
      unfold mn
      rcases h3 with h3 | h3
      · omega
      · omega
theorem suf_pres (us : List Nat) (zs : List Int) : ∀ d k b, (∀ j, k ≤ j → j < k + d → liveU us (Sc.doneOf (zs.take j)) ≤ b) → sufM us zs k d ≤ b := by
  intro d
  induction d with
  | zero => intro k b _; exact Nat.zero_le _
  | succ d ih =>
    intro k b h
    rw [sufM]
    have h1 := h k (Nat.le_refl _) (by omega)
    have h2 := ih (k + 1) b fun j hj1 hj2 => h j (by omega) (by omega)
    omega
theorem pres_at (us : List Nat) (zs : List Int) {j k : Nat} (h0 : 0 < j) (hj : j ≤ k) : liveU us (Sc.doneOf (zs.take j)) ≤ presU us zs k := by
  induction k with
  | zero => omega
  | succ k ih =>
    rw [presU]
    by_cases e : j = k + 1
    · subst e; omega
    · have := ih (by omega); omega
theorem pres_of (us : List Nat) (zs : List Int) {k b : Nat} (h : ∀ j, 0 < j → j ≤ k → liveU us (Sc.doneOf (zs.take j)) ≤ b) : presU us zs k ≤ b := by
  induction k with
  | zero => exact Nat.zero_le _
  | succ k ih =>
    rw [presU]
    have h1 := ih fun j h0 hj => h j h0 (by omega)
    have h2 := h (k + 1) (by omega) (Nat.le_refl _)
    omega
theorem live_zero (us : List Nat) : liveU us 0 = 0 := by unfold liveU; rw [Nat.and_zero]; decide
/-- No order has a lesser pressure. -/
theorem least_le {us : List Nat} {zs : List Int} (h : ordU us zs = true) : F us 0 ≤ presU us zs zs.length := by
  rcases suf_le h (zs.length + 1) 0 (by omega) with h1 | h1
  · refine Nat.le_trans h1 (suf_pres us zs _ _ _ fun j _ hj => ?_)
    rcases Nat.eq_zero_or_pos j with rfl | h0
    · show liveU us 0 ≤ _
      rw [live_zero]; exact Nat.zero_le _
    · exact pres_at us zs h0 (by omega)
  · omega
theorem pres_le_n {us : List Nat} (h8 : us.length ≤ 32) {zs : List Int} (h : ordU us zs = true) : presU us zs zs.length ≤ us.length := by
  refine pres_of us zs fun j h0 hj => ?_
  have h1 : neededU us (Sc.doneOf (zs.take j)) us.length &&& Sc.doneOf (zs.take j) < 2 ^ us.length := Nat.lt_of_le_of_lt Nat.and_le_right (ord_lt h j hj)
  exact Rg.pop_le h8 h1
theorem grd_len (us : List Nat) (m : Nat) : ∀ k s, (grd us m k s).length = k := by
  intro k
  induction k with
  | zero => intro s; rfl
  | succ k ih => intro s; rw [grd, List.length_cons, ih]
/-- The order that is found is one, and what is live behind it is no more than m. -/
theorem grd_ok {ts : List T} (hv : valid ts = true) (m : Nat) : ∀ k o, Ok ts o → o.length + k = ts.length → (k = 0 ∨ mn (needs ts) (Sc.doneOf o) ≤ m) →
    ∀ j, o.length ≤ j → j < ts.length → okU (needs ts) (o ++ grd (needs ts) m k (Sc.doneOf o)) j = true ∧ liveU (needs ts) (Sc.doneOf ((o ++ grd (needs ts) m k (Sc.doneOf o)).take (j + 1))) ≤ m := by
  have h8 := len_of_valid hv
  have hbk := bk_needs hv
  have hl := needs_len ts
  have h8' : (needs ts).length ≤ 8 := by omega
  intro k
  induction k with
  | zero => intro o _ hk _ j h1 h2; omega
  | succ k ih =>
    intro o h hk hm j h1 h2
    have hs := h.done_lt
    have hne := len_done h (by omega)
    rw [← hl] at hs hne
    have hm' : mn (needs ts) (Sc.doneOf o) ≤ m := by
      rcases hm with hm | hm
      · omega
      · exact hm
    obtain ⟨q, hq, hg⟩ := (good_some hbk h8' hs hne).2 hm'
    obtain ⟨f1, f2, f3⟩ := fst_spec (p := good (needs ts) m (Sc.doneOf o)) hq hg
    rw [grd]
    obtain ⟨x, hx⟩ : ∃ x, x = fst (good (needs ts) m (Sc.doneOf o)) (needs ts).length := ⟨_, rfl⟩
    rw [← hx] at f1 f2 ⊢
    rw [good, Bool.and_eq_true] at f2
    have hnb := next_bit f2.1
    rw [Sc.tb_doneOf fun x hx => (h.rg x hx).1] at hnb
    have hx' : x < ts.length := by omega
    have h2' := h.snoc hx' hnb
    have hs2 := h2'.done_lt
    rw [← hl] at hs2
    have hF := (F_le_iff (needs ts) (m := m) hs2).1 (by rw [done_snoc]; exact of_decide_eq_true f2.2)
    have ea : o ++ (x : Int) :: grd (needs ts) m k (Sc.doneOf o ||| 2 ^ x) = (o ++ [(x : Int)]) ++ grd (needs ts) m k (Sc.doneOf (o ++ [(x : Int)])) := by rw [done_snoc, List.append_assoc]; rfl
    rw [ea]
    have hlen : (o ++ [(x : Int)]).length = o.length + 1 := by simp
    by_cases e : j = o.length
    · subst e
      have hget : (o ++ [(x : Int)] ++ grd (needs ts) m k (Sc.doneOf (o ++ [(x : Int)]))).getD o.length 0 = (x : Int) := by
        rw [List.getD_eq_getElem?_getD, List.append_assoc, List.getElem?_append_right (Nat.le_refl _), Nat.sub_self]; rfl
      have htk : (o ++ [(x : Int)] ++ grd (needs ts) m k (Sc.doneOf (o ++ [(x : Int)]))).take o.length = o := by
        rw [List.append_assoc, List.take_append_of_le_length (Nat.le_refl _), List.take_length]
      have htk2 : (o ++ [(x : Int)] ++ grd (needs ts) m k (Sc.doneOf (o ++ [(x : Int)]))).take (o.length + 1) = o ++ [(x : Int)] := by
        rw [← hlen, List.take_append_of_le_length (Nat.le_refl _), List.take_length]
      rw [htk2]
      refine ⟨?_, hF.1⟩
      rw [okU, hget, htk, Int.toNat_natCast, f2.1, Bool.and_true]
      exact decide_eq_true (by omega)
    · exact ih _ h2' (by rw [hlen]; omega) (by
        rcases hF.2 with h3 | h3
        · left
          rcases Nat.eq_zero_or_pos k with h0 | h0
          · exact h0
          · exact absurd (by rw [h3, hl]) (len_done h2' (by rw [hlen]; omega))
        · exact .inr h3) j (by rw [hlen]; omega) h2
theorem order_ok {ts : List T} (hv : valid ts = true) : ordU (needs ts) (order ts) = true ∧ presU (needs ts) (order ts) (order ts).length = least ts := by
  have h0 : Ok ts [] := ⟨by simp, fun x hx => by cases hx⟩
  have hl := needs_len ts
  have hlen : (order ts).length = ts.length := grd_len _ _ _ _
  have hmn : ts.length = 0 ∨ mn (needs ts) (Sc.doneOf []) ≤ least ts := by
    have h1 := (F_le_iff (needs ts) (s := 0) (m := least ts) (Nat.two_pow_pos _)).1 (Nat.le_refl _)
    rcases h1.2 with h | h
    · left
      rw [hl] at h
      rcases Nat.eq_zero_or_pos ts.length with h2 | h2
      · exact h2
      · have : 2 ^ 1 ≤ 2 ^ ts.length := Nat.pow_le_pow_right (by decide) h2
        omega
    · exact .inr h
  have key := grd_ok hv (least ts) ts.length [] h0 (by simp) hmn
  have e : [] ++ grd (needs ts) (least ts) ts.length (Sc.doneOf []) = order ts := rfl
  rw [e] at key
  have hord : ordU (needs ts) (order ts) = true := ordU_all (by rw [hlen, hl]) fun k hk => (key k (Nat.zero_le _) (by omega)).1
  refine ⟨hord, Nat.le_antisymm ?_ (least_le hord)⟩
  refine pres_of _ _ fun j h0 hj => ?_
  obtain ⟨i, rfl⟩ : ∃ i, j = i + 1 := ⟨j - 1, by omega⟩
  exact (key i (Nat.zero_le _) (by omega)).2
end Lp
