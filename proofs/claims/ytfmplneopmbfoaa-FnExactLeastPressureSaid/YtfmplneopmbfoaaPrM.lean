/-
  What is live behind tasks that are done, and the pressure of an order: by sets, and by lists. The sum of the bits of a number by its bytes. Plain mathematics.
-/
import Derived.Test.YtfmplneopmbfoaaTkM
set_option linter.unusedVariables false
namespace Rg
theorem cnt_add (p : Nat → Bool) (n m : Nat) : cnt p (n + m) = cnt p n + cnt (fun k => p (n + k)) m := by
  induction m with
  | zero => rfl
  | succ m ih => rw [← Nat.add_assoc, cnt, ih, cnt]; omega
def popB (b : Nat) : Nat := cnt b.testBit 8
theorem popB_le (b : Nat) : popB b ≤ 8 := cnt_le _ _
theorem byte_bit (s i k : Nat) (h : k < 8) : (s / 2 ^ i % 256).testBit k = s.testBit (i + k) := by
  rw [show (256 : Nat) = 2 ^ 8 from rfl, Nat.testBit_mod_two_pow, decide_eq_true h, Bool.true_and, Nat.testBit_div_two_pow, Nat.add_comm]
theorem pop_bytes (s : Nat) : pop s = popB (s / 16777216 % 256) + popB (s / 65536 % 256) + popB (s / 256 % 256) + popB (s % 256) := by
  unfold pop
  rw [show (32 : Nat) = 8 + (8 + (8 + 8)) from rfl, cnt_add, cnt_add, cnt_add]
  have e : ∀ i, cnt (fun k => s.testBit (i + k)) 8 = popB (s / 2 ^ i % 256) := fun i => cnt_congr fun k hk => (byte_bit s i k hk).symm
  have e0 := e 0
  have e1 := e 8
  have e2 := e 16
  have e3 := e 24
  simp only [Nat.zero_add, Nat.pow_zero, Nat.div_one] at e0
  rw [show cnt s.testBit 8 = popB (s % 256) from e0, e1]
  rw [show (fun k => s.testBit (8 + (8 + k))) = (fun k => s.testBit (16 + k)) from funext fun k => by rw [← Nat.add_assoc], e2]
  rw [show (fun k => s.testBit (8 + (8 + (8 + k)))) = (fun k => s.testBit (24 + k)) from funext fun k => by rw [show 8 + (8 + (8 + k)) = 24 + k by omega], e3]
  simp only [Nat.reducePow]
  omega
theorem pop_le {s n : Nat} (hn : n ≤ 32) (h : s < 2 ^ n) : pop s ≤ n := by
  unfold pop
  rw [cnt_more hn fun k h1 _ => Nat.testBit_lt_two_pow (Nat.lt_of_lt_of_le h (Nat.pow_le_pow_right (by decide) h1))]
  exact cnt_le _ _
theorem cnt_one (q c : Nat → Bool) (x : Nat) (hc : c x = false) (n : Nat) : cnt (fun k => q k && (c k || decide (k = x))) n = cnt (fun k => q k && c k) n + if x < n ∧ q x = true then 1 else 0 := by
  induction n with
  | zero => simp [cnt]
  | succ n ih =>
    rw [cnt, cnt, ih]
    by_cases e : n = x
    · subst e
      rw [hc, if_neg (by omega)]
      cases hq : q n <;> simp
    · rw [decide_eq_false e, Bool.or_false]
      have : (x < n + 1 ∧ q x = true) ↔ (x < n ∧ q x = true) := by
        constructor
        · rintro ⟨h1, h2⟩; exact ⟨by omega, h2⟩
        · rintro ⟨h1, h2⟩; exact ⟨by omega, h2⟩
      simp only [this]
      omega
/-- The members of a list that has each of its numbers once, counted by numbers and by places. -/
theorem cnt_list (q : Nat → Bool) (n : Nat) : ∀ l : List Int, l.Nodup → (∀ x ∈ l, 0 ≤ x ∧ x < n) → cnt (fun k => q k && l.contains (k : Int)) n = cnt (fun j => q (l.getD j 0).toNat) l.length := by
  suffices H : ∀ ys : List Int, ys.reverse.Nodup → (∀ x ∈ ys.reverse, 0 ≤ x ∧ x < n) → cnt (fun k => q k && ys.reverse.contains (k : Int)) n = cnt (fun j => q (ys.reverse.getD j 0).toNat) ys.reverse.length by
    intro l hd hm
    have := H l.reverse
    rw [List.reverse_reverse] at this
    exact this hd hm
  intro ys
  induction ys with
  | nil =>
    intro hd hm
    rw [List.reverse_nil, List.length_nil, cnt, cnt_congr (q := fun _ => false) (by intro k _; simp)]
    clear hd hm
    induction n with
    | zero => rfl
    | succ n ih => rw [cnt, ih]; rfl
  | cons x r ih =>
    rw [List.reverse_cons]
    generalize r.reverse = l at ih ⊢
    intro hd hm
    rw [List.nodup_append] at hd
    have hx := hm x (by simp)
    have hl : l.contains x = false := by
      cases e : l.contains x
      · rfl
      · exact absurd rfl (hd.2.2 x (List.contains_iff_mem.1 e) x (by simp))
    have ih := ih hd.1 fun y hy => hm y (by simp [hy])
    have e1 : ∀ k : Nat, (l ++ [x]).contains (k : Int) = (l.contains (k : Int) || decide (k = x.toNat)) := by
      intro k
      rw [Bool.eq_iff_iff]
      simp only [List.contains_iff_mem, List.mem_append, List.mem_singleton, Bool.or_eq_true, decide_eq_true_eq]
      rw [show ((k : Int) = x) ↔ (k = x.toNat) by omega]
    simp only [e1]
    rw [cnt_one q (fun k => l.contains (k : Int)) x.toNat (by show l.contains ((x.toNat : Nat) : Int) = false; rw [show ((x.toNat : Nat) : Int) = x by omega]; exact hl), ih]
    rw [List.length_append, List.length_singleton, cnt]
    congr 1
    · exact cnt_congr fun j hj => by rw [List.getD_eq_getElem?_getD, List.getD_eq_getElem?_getD, List.getElem?_append_left hj]
    · rw [List.getD_eq_getElem?_getD, List.getElem?_append_right (Nat.le_refl _), Nat.sub_self]
      have h2 : x.toNat < n := by omega
      simp [h2]
end Rg
namespace Tk
/-- What the tasks below n that are not done need. -/
def neededU (us : List Nat) (s : Nat) : Nat → Nat
  | 0 => 0
  | j + 1 => if s.testBit j then neededU us s j else neededU us s j ||| us.getD j 0
theorem tb_neededU (us : List Nat) (s n k : Nat) : (neededU us s n).testBit k = (List.range n).any fun j => !s.testBit j && (us.getD j 0).testBit k := by
  induction n with
  | zero => simp [neededU]
  | succ n ih =>
    rw [neededU, List.range_succ, List.any_append, ← ih]
    cases hs : s.testBit n <;> simp [hs, Nat.testBit_or]
theorem neededU_lt {us : List Nat} {n : Nat} (h : ∀ j, j < n → us.getD j 0 < 4294967296) (s : Nat) : neededU us s n < 4294967296 := by
  induction n with
  | zero => simp [neededU]
  | succ n ih =>
    rw [neededU]
    split
    · exact ih fun j hj => h j (by omega)
    · exact Sc.or_lt (ih fun j hj => h j (by omega)) (h n (by omega))
def liveU (us : List Nat) (s : Nat) : Nat := Rg.pop (neededU us s us.length &&& s)
/-- A task that is not done needs x. -/
def liveAt (ts : List T) (done : List Int) (n : Nat) (x : Int) : Bool := (List.range n).any fun i => !done.contains (i : Int) && (nth ts i).ns.contains x
def liveL (ts : List T) (done : List Int) : Nat := Rg.cnt (fun j => liveAt ts done ts.length (done.getD j 0)) done.length
theorem live_eq {ts : List T} (hv : valid ts = true) {done : List Int} (hd : done.Nodup) (hr : ∀ x ∈ done, 0 ≤ x ∧ x < ts.length) : liveU (needs ts) (Sc.doneOf done) = liveL ts done := by
  have h8 := len_of_valid hv
  unfold liveU liveL
  rw [needs_len]
  have hp : ∀ x ∈ done, 0 ≤ x := fun x hx => (hr x hx).1
  have key : ∀ k : Nat, (neededU (needs ts) (Sc.doneOf done) ts.length &&& Sc.doneOf done).testBit k = (liveAt ts done ts.length (k : Int) && done.contains (k : Int)) := by
    intro k
    rw [Nat.testBit_and, tb_neededU, Sc.tb_doneOf hp]
    congr 1
    unfold liveAt
    rw [Bool.eq_iff_iff, List.any_eq_true, List.any_eq_true]
    constructor
    · rintro ⟨j, hj, h⟩
      rw [needs_at (List.mem_range.1 hj), need, Sc.tb_doneOf hp, Sc.tb_doneOf (fun x hx => ((tok_parts (tok_of_valid hv (List.mem_range.1 hj))).2.2 x hx).1)] at h
      exact ⟨j, hj, h⟩
    · rintro ⟨j, hj, h⟩
      refine ⟨j, hj, ?_⟩
      rw [needs_at (List.mem_range.1 hj), need, Sc.tb_doneOf hp, Sc.tb_doneOf (fun x hx => ((tok_parts (tok_of_valid hv (List.mem_range.1 hj))).2.2 x hx).1)]
      exact h
  unfold Rg.pop
  rw [Rg.cnt_congr (q := fun k => liveAt ts done ts.length (k : Int) && done.contains (k : Int)) fun k _ => key k]
  rw [Rg.cnt_list (fun k => liveAt ts done ts.length (k : Int)) 32 done hd fun x hx => by have := hr x hx; omega]
  refine Rg.cnt_congr fun j hj => ?_
  have := hr (done.getD j 0) (by rw [List.getD_eq_getElem?_getD, List.getElem?_eq_getElem hj]; exact List.getElem_mem hj)
  show liveAt ts done ts.length (((done.getD j 0).toNat : Nat) : Int) = _
  rw [show (((done.getD j 0).toNat : Nat) : Int) = done.getD j 0 by omega]
/-- The pressure, of the first k. -/
def presU (us : List Nat) (zs : List Int) : Nat → Nat
  | 0 => 0
  | k + 1 => max (presU us zs k) (liveU us (Sc.doneOf (zs.take (k + 1))))
def presL (ts : List T) (zs : List Int) : Nat → Nat
  | 0 => 0
  | k + 1 => max (presL ts zs k) (liveL ts (zs.take (k + 1)))
theorem nodup_of_ord {us : List Nat} {zs : List Int} (h : ∀ k, k < zs.length → okU us zs k = true) : ∀ k, k ≤ zs.length → (zs.take k).Nodup := by
  intro k
  induction k with
  | zero => intro _; simp
  | succ k ih =>
    intro hk
    rw [take_snoc (by omega), List.nodup_append]
    have hr : ∀ x ∈ zs.take k, 0 ≤ x := fun x hx => by
      obtain ⟨i, hi, hi2, rfl⟩ := mem_take hx
      exact (okU_range (h i hi2)).1
    refine ⟨ih (by omega), by simp, fun a ha b hb => ?_⟩
    rw [List.mem_singleton] at hb
    subst hb
    intro e
    have h1 := h k (by omega)
    have h2 := okU_range h1
    rw [okU, Bool.and_eq_true, nextU, Bool.and_eq_true, Sc.tb_doneOf hr] at h1
    rw [show (((zs.getD k 0).toNat : Nat) : Int) = zs.getD k 0 by omega] at h1
    rw [← e, List.contains_iff_mem.2 ha] at h1
    simp at h1
theorem pres_eq {ts : List T} (hv : valid ts = true) {zs : List Int} (h : ordU (needs ts) zs = true) : ∀ k, k ≤ zs.length → presU (needs ts) zs k = presL ts zs k := by
  intro k
  induction k with
  | zero => intro _; rfl
  | succ k ih =>
    intro hk
    rw [presU, presL, ih (by omega), live_eq hv (nodup_of_ord (fun k hk => ordU_at h hk) (k + 1) hk)]
    intro x hx
    obtain ⟨i, hi, hi2, rfl⟩ := mem_take hx
    have := okU_range (ordU_at h hi2)
    rw [needs_len] at this
    exact this
def pressureOf (ts : List T) (zs : List Int) : Int × Bool := if isOrder ts zs then ((presU (needs ts) zs zs.length : Nat), true) else (0, false)
theorem liveU_le {ts : List T} (hv : valid ts = true) (s : Nat) : liveU (needs ts) s ≤ 32 := Rg.cnt_le _ _
theorem presU_le (us : List Nat) (zs : List Int) (k : Nat) : presU us zs k ≤ 32 := by
  induction k with
  | zero => exact Nat.zero_le _
  | succ k ih => rw [presU]; have : liveU us (Sc.doneOf (zs.take (k + 1))) ≤ 32 := Rg.cnt_le _ _; omega
end Tk
