/-
  How many lists are orders: as many as the ways that are counted by sets. Plain mathematics.
-/
import Derived.Test.YtbaiaahdjkjjoaaCoM
set_option linter.unusedSimpArgs false
set_option linter.unusedVariables false
namespace Sc
/-- f 0 + .. + f (n - 1). -/
def sm (f : Nat → Int) : Nat → Int
  | 0 => 0
  | n + 1 => sm f n + f n
theorem sm_congr {f g : Nat → Int} {n : Nat} (h : ∀ i, i < n → f i = g i) : sm f n = sm g n := by
  induction n with
  | zero => rfl
  | succ n ih => rw [sm, sm, ih (fun i hi => h i (by omega)), h n (by omega)]
theorem sm_add (f g : Nat → Int) (n : Nat) : sm f n + sm g n = sm (fun i => f i + g i) n := by
  induction n with
  | zero => rfl
  | succ n ih => rw [sm, sm, sm, ← ih]; omega
theorem sm_zero (n : Nat) : sm (fun _ => 0) n = 0 := by
  induction n with
  | zero => rfl
  | succ n ih => rw [sm, ih]; rfl
theorem sm_nonneg {f : Nat → Int} {n : Nat} (h : ∀ i, i < n → 0 ≤ f i) : 0 ≤ sm f n := by
  induction n with
  | zero => exact Int.le_refl _
  | succ n ih =>
    rw [sm]
    have := ih (fun i hi => h i (by omega))
    have := h n (by omega)
    omega
theorem sm_ge {f : Nat → Int} {n k : Nat} (h : ∀ i, i < n → 0 ≤ f i) (hk : k < n) : f k ≤ sm f n := by
  induction n with
  | zero => omega
  | succ n ih =>
    rw [sm]
    have h0 := h n (by omega)
    by_cases e : k = n
    · subst e
      have := sm_nonneg (f := f) (n := k) (fun i hi => h i (by omega))
      omega
    · have := ih (fun i hi => h i (by omega)) (by omega)
      omega
theorem sm_app (f : Nat → Int) (a b : Nat) : sm f (a + b) = sm f a + sm (fun i => f (a + i)) b := by
  induction b with
  | zero => simp [sm]
  | succ b ih => rw [← Nat.add_assoc, sm, ih, sm]; omega
theorem sm_mul (f : Nat → Int) (a b : Nat) : sm f (a * b) = sm (fun q => sm (fun r => f (q * b + r)) b) a := by
  induction a with
  | zero => simp [sm]
  | succ a ih => rw [Nat.succ_mul, sm_app, ih, sm]
/-- The ways to y before y's own row. -/
def V (c : List St) (n y : Nat) : Int := (dp c n y).getD y 0
theorem row_get (c : List St) (W : List Int) (s x n : Nat) (hW : ∀ i, i < n → s ||| 2 ^ i < W.length) : ∀ j, j ≤ n →
    (rowW c W s j).getD x 0 = W.getD x 0 + sm (fun i => if free c s i && decide (s ||| 2 ^ i = x) then W.getD s 0 else 0) j := by
  intro j
  induction j with
  | zero => intro _; simp [rowW, sm]
  | succ j ih =>
    intro hj
    rw [rowW_succ, stepW, sm]
    have ih' := ih (by omega)
    by_cases hf : free c s j = true
    · rw [if_pos hf]
      by_cases e : s ||| 2 ^ j = x
      · subst e
        rw [getD_set_eq (by rw [rowW_len]; exact hW j (by omega)), ih', rowW_same, hf]
        simp
        omega
      · rw [getD_set_ne e, ih', hf]
        simp [e]
    · rw [if_neg hf, ih']
      have hf' : free c s j = false := by simpa using hf
      simp [hf']
theorem bit_split {x j : Nat} (h : x.testBit j = true) : ∃ s, s.testBit j = false ∧ s ||| 2 ^ j = x ∧ x - 2 ^ j = s ∧ s < x := by
  refine ⟨x ^^^ 2 ^ j, ?_, ?_, ?_, ?_⟩
  · rw [Nat.testBit_xor, h, tb_pow]; simp
  · refine Nat.eq_of_testBit_eq fun i => ?_
    rw [Nat.testBit_or, Nat.testBit_xor, tb_pow]
    by_cases e : j = i
    · subst e; simp [h]
    · simp [e]
  all_goals
    have h1 : (x ^^^ 2 ^ j).testBit j = false := by rw [Nat.testBit_xor, h, tb_pow]; simp
    have h2 : (x ^^^ 2 ^ j) ||| 2 ^ j = x := by
      refine Nat.eq_of_testBit_eq fun i => ?_
      rw [Nat.testBit_or, Nat.testBit_xor, tb_pow]
      by_cases e : j = i
      · subst e; simp [h]
      · simp [e]
    have h3 := or_add h1
    rw [h2] at h3
    have := Nat.two_pow_pos j
    omega
theorem or_bit {s j x : Nat} (hs : s.testBit j = false) (h : s ||| 2 ^ j = x) : x.testBit j = true ∧ x - 2 ^ j = s := by
  have h3 := or_add hs
  rw [h] at h3
  refine ⟨by rw [← h, Nat.testBit_or, tb_pow]; simp, by omega⟩
/-- The ways to x by the rows before s. -/
theorem dp_get (c : List St) {n : Nat} : ∀ s, s ≤ 2 ^ n → ∀ x, x < 2 ^ n →
    (dp c n s).getD x 0 = (if x = 0 then 1 else 0) + sm (fun j => if x.testBit j && decide (x - 2 ^ j < s) && free c (x - 2 ^ j) j then V c n (x - 2 ^ j) else 0) n := by
  intro s
  induction s with
  | zero =>
    intro _ x hx
    rw [sm_congr (g := fun _ => 0) (fun i _ => by simp), sm_zero, dp]
    by_cases e : x = 0
    · subst e; rw [getD_set_eq (by simpa using Nat.two_pow_pos n)]; rfl
    · rw [getD_set_ne (fun h => e h.symm), if_neg e, List.getD_eq_getElem?_getD, List.getElem?_replicate, if_pos hx]; rfl
  | succ s ih =>
    intro hs x hx
    rw [dp, row_get c _ s x n (fun i hi => by rw [dp_len]; exact or_lt_pow (by omega) hi) n (Nat.le_refl _), ih (by omega) x hx, Int.add_assoc, sm_add]
    congr 1
    refine sm_congr fun j hj => ?_
    show _ + (if free c s j && decide (s ||| 2 ^ j = x) then V c n s else 0) = _
    cases ht : x.testBit j
    · have : (free c s j && decide (s ||| 2 ^ j = x)) = false := by
        rw [Bool.and_eq_false_iff]
        by_cases e : s ||| 2 ^ j = x
        · left
          cases hf : free c s j
          · rfl
          · rw [(or_bit (free_not hf) e).1] at ht; cases ht
        · right; exact decide_eq_false e
      rw [this]; simp
    · obtain ⟨t, t1, t2, t3, t4⟩ := bit_split ht
      rw [t3]
      by_cases e : t = s
      · subst e
        rw [decide_eq_false (Nat.lt_irrefl t), decide_eq_true t2, decide_eq_true (Nat.lt_succ_self t)]
        cases free c t j <;> simp
      · have : (free c s j && decide (s ||| 2 ^ j = x)) = false := by
          rw [Bool.and_eq_false_iff]
          by_cases e2 : s ||| 2 ^ j = x
          · left
            cases hf : free c s j
            · rfl
            · have := (or_bit (free_not hf) e2).2; rw [t3] at this; exact absurd this e
          · right; exact decide_eq_false e2
        rw [this]
        have e3 : decide (t < s + 1) = decide (t < s) := by rw [decide_eq_decide]; omega
        rw [e3]; simp
theorem V_eq (c : List St) {n x : Nat} (hx : x < 2 ^ n) : V c n x = (if x = 0 then 1 else 0) + sm (fun j => if x.testBit j && free c (x - 2 ^ j) j then V c n (x - 2 ^ j) else 0) n := by
  show (dp c n x).getD x 0 = _
  rw [dp_get c x (by omega) x hx]
  congr 1
  refine sm_congr fun j hj => ?_
  cases ht : x.testBit j
  · simp
  · obtain ⟨t, t1, t2, t3, t4⟩ := bit_split ht
    rw [t3, decide_eq_true t4]; simp
theorem V_last (c : List St) (n : Nat) : (dp c n (2 ^ n)).getD (2 ^ n - 1) 0 = V c n (2 ^ n - 1) := by
  have h0 := Nat.two_pow_pos n
  rw [dp_get c (2 ^ n) (Nat.le_refl _) _ (by omega), V_eq c (by omega)]
  congr 1
  refine sm_congr fun j hj => ?_
  cases ht : (2 ^ n - 1).testBit j
  · simp
  · obtain ⟨t, t1, t2, t3, t4⟩ := bit_split ht
    rw [t3, decide_eq_true (show t < 2 ^ n by omega)]; simp
theorem V_nonneg (c : List St) {n x : Nat} (hn : n ≤ 10) (hx : x ≤ 2 ^ n) : 0 ≤ V c n x := ((dp_bd c hn x hx).lt x).1
theorem V_one (c : List St) {n : Nat} (hn : n ≤ 10) : ∀ j, j ≤ n → 1 ≤ V c n (2 ^ j - 1) := by
  intro j
  induction j with
  | zero =>
    intro _
    show 1 ≤ V c n 0
    rw [V_eq c (Nat.two_pow_pos n), if_pos rfl, sm_congr (g := fun _ => 0) (fun i _ => by rw [Nat.zero_testBit]; rfl), sm_zero]
    decide
  | succ j ih =>
    intro hj
    have hp : 2 ^ (j + 1) ≤ 2 ^ n := Nat.pow_le_pow_right (by decide) hj
    have h0 := Nat.two_pow_pos (j + 1)
    have h1 := Nat.two_pow_pos j
    rw [V_eq c (by omega), if_neg (by rw [Nat.pow_succ]; omega)]
    have hg := sm_ge (f := fun i => if (2 ^ (j + 1) - 1).testBit i && free c ((2 ^ (j + 1) - 1) - 2 ^ i) i then V c n ((2 ^ (j + 1) - 1) - 2 ^ i) else 0) (n := n) (k := j) (fun i hi => by
      split
      · exact V_nonneg c hn (Nat.le_trans (Nat.sub_le _ _) (by omega))
      · exact Int.le_refl _) (by omega)
    have e1 : (2 ^ (j + 1) - 1).testBit j = true := by rw [Nat.testBit_two_pow_sub_one]; simp
    have e2 : (2 ^ (j + 1) - 1) - 2 ^ j = 2 ^ j - 1 := by rw [Nat.pow_succ]; omega
    have e3 : free c (2 ^ j - 1) j = true := by
      unfold free
      rw [Bool.and_eq_true, List.all_eq_true]
      refine ⟨by rw [Nat.testBit_two_pow_sub_one]; simp, fun i hi => ?_⟩
      rw [Nat.testBit_two_pow_sub_one, decide_eq_true (List.mem_range.1 hi)]; rfl
    simp only [e1, e2, e3, Bool.and_self, if_true] at hg
    have := ih (by omega)
    omega
/-- The first m digits of k, the least significant one first. -/
def dg (n k : Nat) : Nat → List Int
  | 0 => []
  | m + 1 => dg n k m ++ [((k / n ^ m % n : Nat) : Int)]
theorem dg_len (n k m : Nat) : (dg n k m).length = m := by
  induction m with
  | zero => rfl
  | succ m ih => simp [dg, ih]
theorem dg_low {n : Nat} (hn : 0 < n) (q r m : Nat) : ∀ i, i ≤ m → dg n (q * n ^ m + r) i = dg n r i := by
  intro i
  induction i with
  | zero => intro _; rfl
  | succ i ih =>
    intro hi
    rw [dg, dg, ih (by omega)]
    congr 3
    obtain ⟨d, hd⟩ : ∃ d, m = i + 1 + d := ⟨m - (i + 1), by omega⟩
    subst hd
    have e : q * n ^ (i + 1 + d) + r = r + n ^ i * (n * (q * n ^ d)) := by
      rw [Nat.pow_add, Nat.pow_succ]
      have : q * (n ^ i * n * n ^ d) = n ^ i * (n * (q * n ^ d)) := by
        rw [Nat.mul_comm q, Nat.mul_assoc, Nat.mul_assoc, Nat.mul_comm (n ^ d) q]
      omega
    rw [e, Nat.add_mul_div_left _ _ (Nat.pow_pos hn), Nat.add_mul_mod_self_left]
/-- Each can come next behind those before it. -/
def okL (c : List St) (l : List Int) : Bool := (List.range l.length).all fun k => nextOk c (l.take k) (l.getD k 0)
theorem okL_snoc (c : List St) (l : List Int) (j : Int) : okL c (l ++ [j]) = (okL c l && nextOk c l j) := by
  unfold okL
  rw [List.length_append, List.length_singleton, List.range_succ, List.all_append]
  congr 1
  · rw [Bool.eq_iff_iff, List.all_eq_true, List.all_eq_true]
    refine forall_congr' fun k => ?_
    constructor
    · intro h hk
      have hk' : k < l.length := List.mem_range.1 hk
      have := h hk
      rw [List.take_append_of_le_length (by omega)] at this
      rw [List.getD_eq_getElem?_getD, List.getElem?_append_left hk', ← List.getD_eq_getElem?_getD] at this
      exact this
    · intro h hk
      have hk' : k < l.length := List.mem_range.1 hk
      rw [List.take_append_of_le_length (by omega), List.getD_eq_getElem?_getD, List.getElem?_append_left hk', ← List.getD_eq_getElem?_getD]
      exact h hk
  · simp
theorem nextOk_free (c : List St) {l : List Int} (hl : ∀ x ∈ l, 0 ≤ x) (q : Nat) (hq : q < c.length) : nextOk c l (q : Int) = free c (doneOf l) q := by
  have h := next_bits (c := c) (pre := l) (j := (q : Int)) ⟨by omega, by omega⟩ hl
  rw [← h]
  exact free_bits c (doneOf l) q
theorem dg_nonneg (n k m : Nat) : ∀ x ∈ dg n k m, 0 ≤ x := by
  induction m with
  | zero => intro x hx; cases hx
  | succ m ih =>
    intro x hx
    rw [dg, List.mem_append] at hx
    rcases hx with hx | hx
    · exact ih x hx
    · rw [List.mem_singleton.1 hx]; omega
/-- How many lists of m digits lead to x. -/
def N (c : List St) (m x : Nat) : Int := sm (fun k => if okL c (dg c.length k m) && decide (doneOf (dg c.length k m) = x) then 1 else 0) (c.length ^ m)
theorem N_succ (c : List St) (m x : Nat) (h0 : 0 < c.length) : N c (m + 1) x = sm (fun q => if x.testBit q && free c (x - 2 ^ q) q then N c m (x - 2 ^ q) else 0) c.length := by
  unfold N
  rw [Nat.pow_succ, Nat.mul_comm, sm_mul]
  refine sm_congr fun q hq => ?_
  have key : ∀ r, r < c.length ^ m → dg c.length (q * c.length ^ m + r) (m + 1) = dg c.length r m ++ [(q : Int)] := by
    intro r hr
    rw [dg, dg_low h0 q r m m (Nat.le_refl _)]
    congr 3
    rw [Nat.add_comm, Nat.mul_comm, Nat.add_mul_div_left _ _ (Nat.pow_pos h0), Nat.div_eq_of_lt hr, Nat.zero_add, Nat.mod_eq_of_lt hq]
  have one : ∀ r, r < c.length ^ m → (if okL c (dg c.length (q * c.length ^ m + r) (m + 1)) && decide (doneOf (dg c.length (q * c.length ^ m + r) (m + 1)) = x) then (1 : Int) else 0) =
      if x.testBit q && free c (x - 2 ^ q) q then (if okL c (dg c.length r m) && decide (doneOf (dg c.length r m) = x - 2 ^ q) then 1 else 0) else 0 := by
    intro r hr
    rw [key r hr, okL_snoc, doneOf_snoc, nextOk_free c (dg_nonneg _ _ _) q hq, show bt (q : Int) = 2 ^ q from rfl]
    generalize okL c (dg c.length r m) = a
    generalize doneOf (dg c.length r m) = s
    cases a
    · simp
    · rw [Bool.true_and, Bool.true_and]
      by_cases e : s ||| 2 ^ q = x
      · rw [decide_eq_true e, Bool.and_true]
        cases hf : free c s q
        · by_cases h2 : s = x - 2 ^ q
          · rw [← h2, hf]; simp
          · rw [decide_eq_false h2]; simp
        · obtain ⟨b1, b2⟩ := or_bit (free_not hf) e
          rw [b1, b2, hf]; simp
      · rw [decide_eq_false e, Bool.and_false]
        cases ht : x.testBit q
        · simp
        · obtain ⟨t, t1, t2, t3, t4⟩ := bit_split ht
          rw [t3]
          have : ¬ s = t := by rintro rfl; exact e t2
          rw [decide_eq_false this]; simp
  rw [sm_congr one]
  cases h : (x.testBit q && free c (x - 2 ^ q) q)
  · simp [sm_zero]
  · simp
theorem N_V (c : List St) (h0 : 0 < c.length) (h10 : c.length ≤ 10) : ∀ m x, x < 2 ^ c.length → pc x = m → N c m x = V c c.length x := by
  intro m
  induction m with
  | zero =>
    intro x hx hp
    have hz : x = 0 := by
      rw [eq_zero_iff]
      intro k
      by_cases hk : k < 10
      · cases ht : x.testBit k
        · rfl
        · obtain ⟨t, t1, t2, t3, t4⟩ := bit_split ht
          have := pc_or t1 hk
          rw [t2, hp] at this
          omega
      · exact Nat.testBit_lt_two_pow (Nat.lt_of_lt_of_le hx (Nat.pow_le_pow_right (by decide) (by omega)))
    subst hz
    rw [V_eq c hx, if_pos rfl, sm_congr (g := fun _ => 0) (fun i _ => by rw [Nat.zero_testBit]; rfl), sm_zero]
    show sm _ (c.length ^ 0) = _
    rw [Nat.pow_zero]
    rfl
  | succ m ih =>
    intro x hx hp
    have hne : x ≠ 0 := by
      rintro rfl
      have : ∀ n, cnt (Nat.testBit 0) n = 0 := by
        intro n
        induction n with
        | zero => rfl
        | succ n ih => rw [cnt, ih]; simp
      unfold pc at hp
      rw [this] at hp
      cases hp
    rw [N_succ c m x h0, V_eq c hx, if_neg hne, Int.zero_add]
    refine sm_congr fun q hq => ?_
    cases ht : x.testBit q
    · simp
    · obtain ⟨t, t1, t2, t3, t4⟩ := bit_split ht
      have := pc_or t1 (show q < 10 by omega)
      rw [t2, hp] at this
      rw [t3, ih t (by omega) (by omega)]
theorem okL_pc (c : List St) (h10 : c.length ≤ 10) (k : Nat) (h0 : 0 < c.length) : ∀ m, okL c (dg c.length k m) = true → pc (doneOf (dg c.length k m)) = m ∧ doneOf (dg c.length k m) < 2 ^ c.length := by
  intro m
  induction m with
  | zero => intro _; exact ⟨show pc 0 = 0 by decide, Nat.two_pow_pos _⟩
  | succ m ih =>
    intro h
    rw [dg, okL_snoc, Bool.and_eq_true] at h
    obtain ⟨i1, i2⟩ := ih h.1
    have hq : k / c.length ^ m % c.length < c.length := Nat.mod_lt _ h0
    have hf := h.2
    rw [nextOk_free c (dg_nonneg _ _ _) _ hq] at hf
    rw [dg, doneOf_snoc, show bt ((k / c.length ^ m % c.length : Nat) : Int) = 2 ^ (k / c.length ^ m % c.length) from rfl]
    exact ⟨by rw [pc_or (free_not hf) (by omega), i1], or_lt_pow i2 hq⟩
theorem full_of_pc : ∀ n, n ≤ 5 → ∀ x, x < 2 ^ n → pc x = n → x = 2 ^ n - 1 := by
  intro n hn
  have : n = 0 ∨ n = 1 ∨ n = 2 ∨ n = 3 ∨ n = 4 ∨ n = 5 := by omega
  rcases this with rfl | rfl | rfl | rfl | rfl | rfl <;> decide
theorem pc_full : ∀ n, n ≤ 5 → pc (2 ^ n - 1) = n := by
  intro n hn
  have : n = 0 ∨ n = 1 ∨ n = 2 ∨ n = 3 ∨ n = 4 ∨ n = 5 := by omega
  rcases this with rfl | rfl | rfl | rfl | rfl | rfl <;> decide
/-- How many of the first k lists are orders. -/
def ords (c : List St) (k : Nat) : Int := sm (fun k => if isOrder c (dg c.length k c.length) then 1 else 0) k
theorem ords_succ (c : List St) (k : Nat) : ords c (k + 1) = ords c k + if isOrder c (dg c.length k c.length) then 1 else 0 := rfl
theorem ords_bd (c : List St) (k : Nat) : 0 ≤ ords c k ∧ ords c k ≤ k := by
  induction k with
  | zero => exact ⟨Int.le_refl _, Int.le_refl _⟩
  | succ k ih => rw [ords_succ]; split <;> omega
theorem ords_all {c : List St} (hv : valid c = true) (h5 : c.length ≤ 5) : ords c (c.length ^ c.length) = (dp c c.length (2 ^ c.length)).getD (2 ^ c.length - 1) 0 := by
  have e : ∀ k, isOrder c (dg c.length k c.length) = okL c (dg c.length k c.length) := by
    intro k
    unfold isOrder isOrd okL
    rw [hv, dg_len]
    simp
  rcases Nat.eq_zero_or_pos c.length with h0 | h0
  · have hc : c = [] := List.length_eq_zero_iff.1 h0
    subst hc
    decide
  · rw [V_last, ← N_V c h0 (by omega) c.length (2 ^ c.length - 1) (by have := Nat.two_pow_pos c.length; omega) (pc_full _ h5)]
    unfold ords N
    refine sm_congr fun k hk => ?_
    rw [e k]
    cases ho : okL c (dg c.length k c.length)
    · simp
    · obtain ⟨p1, p2⟩ := okL_pc c (by omega) k h0 _ ho
      rw [decide_eq_true (full_of_pc _ h5 _ p2 p1)]; simp
theorem ways_one {c : List St} (h5 : c.length ≤ 5) : 1 ≤ (dp c c.length (2 ^ c.length)).getD (2 ^ c.length - 1) 0 := by
  rw [V_last]; exact V_one c (by omega) _ (Nat.le_refl _)
end Sc
