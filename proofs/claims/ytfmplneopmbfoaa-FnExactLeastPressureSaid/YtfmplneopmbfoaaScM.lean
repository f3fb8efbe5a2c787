/-
  Plain mathematics of chapter 3 (no program, no model): statements, when one must follow another one, sets of small numbers as bits of a natural number, orders, levels, inputs, outputs. No conditions beyond those written in each lemma.
-/
set_option linter.unusedSimpArgs false
namespace Sc
structure St where
  op : Int
  d : Int
  a : Int
  b : Int
def zero : St := ⟨0, 0, 0, 0⟩
def isOp (n : Int) : Bool := decide (0 ≤ n ∧ n ≤ 17)
def isCell (n : Int) : Bool := decide (0 ≤ n ∧ n ≤ 31)
def ok (s : St) : Bool := isOp s.op && isCell s.d && isCell s.a && isCell s.b
def valid (c : List St) : Bool := c.all ok && decide (c.length ≤ 16)
/-- Whether y, which stands behind x, must follow it. -/
def must (x y : St) : Bool := x.d == y.a || x.d == y.b || x.d == y.d || y.d == x.a || y.d == x.b
def nth (c : List St) (k : Nat) : St := c.getD k zero
def mustFollow (c : List St) (i j : Int) : Bool := valid c && decide (0 ≤ i ∧ i < j ∧ j < c.length) && must (nth c i.toNat) (nth c j.toNat)

theorem isCell_iff {n : Int} : isCell n = true ↔ 0 ≤ n ∧ n ≤ 31 := by simp [isCell]
theorem ok_cells {s : St} (h : ok s = true) : (0 ≤ s.op ∧ s.op ≤ 17) ∧ (0 ≤ s.d ∧ s.d ≤ 31) ∧ (0 ≤ s.a ∧ s.a ≤ 31) ∧ (0 ≤ s.b ∧ s.b ≤ 31) := by
  simp [ok, isOp, isCell] at h; omega
theorem ok_of_valid {c : List St} (h : valid c = true) {k : Nat} (hk : k < c.length) : ok (nth c k) = true := by
  simp only [valid, Bool.and_eq_true, List.all_eq_true] at h
  have := h.1 (c[k]) (List.getElem_mem hk)
  simpa [nth, hk] using this
theorem len_of_valid {c : List St} (h : valid c = true) : c.length ≤ 16 := by
  simp only [valid, Bool.and_eq_true, decide_eq_true_eq] at h; exact h.2

/-- The bits of a set. -/
theorem tb_pow (i k : Nat) : (2 ^ i).testBit k = decide (i = k) := Nat.testBit_two_pow
theorem eq_zero_iff (s : Nat) : s = 0 ↔ ∀ k, s.testBit k = false := by
  constructor
  · rintro rfl k; exact Nat.zero_testBit k
  · intro h; exact Nat.eq_of_testBit_eq fun k => by rw [h k, Nat.zero_testBit]
theorem and_pow_eq_zero (s k : Nat) : (s &&& 2 ^ k = 0) ↔ s.testBit k = false := by
  rw [eq_zero_iff]
  constructor
  · intro h
    have := h k
    rw [Nat.testBit_and, tb_pow] at this
    simpa using this
  · intro h j
    rw [Nat.testBit_and, tb_pow]
    by_cases e : k = j
    · subst e; simp [h]
    · simp [e]
theorem or_pow_eq (s k : Nat) : (s ||| 2 ^ k = s) ↔ s.testBit k = true := by
  constructor
  · intro h; rw [← h, Nat.testBit_or, tb_pow]; simp
  · intro h; exact Nat.eq_of_testBit_eq fun j => by
      rw [Nat.testBit_or, tb_pow]
      by_cases e : k = j
      · subst e; simp [h]
      · simp [e]
theorem pow_lt {k : Nat} (h : k ≤ 31) : 2 ^ k < 4294967296 := Nat.lt_of_le_of_lt (Nat.pow_le_pow_right (by decide) h) (by decide)
theorem or_lt {a b : Nat} (ha : a < 4294967296) (hb : b < 4294967296) : a ||| b < 4294967296 := Nat.or_lt_two_pow (n := 32) ha hb
theorem and_lt {a b : Nat} (ha : a < 4294967296) : a &&& b < 4294967296 := Nat.lt_of_le_of_lt Nat.and_le_left ha
def bt (n : Int) : Nat := 2 ^ n.toNat
theorem bt_lt {n : Int} (h : n ≤ 31) : bt n < 4294967296 := pow_lt (by omega)
/-- The bits say whether one statement must follow another one. -/
theorem must_bits {x y : St} (hx : ok x = true) (hy : ok y = true) :
    (!(bt x.d &&& (bt y.a ||| bt y.b ||| bt y.d) == 0) || !(bt y.d &&& (bt x.a ||| bt x.b) == 0)) = must x y := by
  obtain ⟨_, hd, ha, hb⟩ := ok_cells hx
  obtain ⟨_, hd', ha', hb'⟩ := ok_cells hy
  have e1 : (bt x.d &&& (bt y.a ||| bt y.b ||| bt y.d) == 0) = !(x.d == y.a || x.d == y.b || x.d == y.d) := by
    rw [Nat.and_comm]
    have h := and_pow_eq_zero (bt y.a ||| bt y.b ||| bt y.d) x.d.toNat
    simp only [bt, Nat.testBit_or, tb_pow] at h ⊢
    rw [Bool.eq_iff_iff, beq_iff_eq, h]
    simp
    omega
  have e2 : (bt y.d &&& (bt x.a ||| bt x.b) == 0) = !(y.d == x.a || y.d == x.b) := by
    rw [Nat.and_comm]
    have h := and_pow_eq_zero (bt x.a ||| bt x.b) y.d.toNat
    simp only [bt, Nat.testBit_or, tb_pow] at h ⊢
    rw [Bool.eq_iff_iff, beq_iff_eq, h]
    simp
    omega
  rw [e1, e2]; simp [must, Bool.or_assoc]

/-- The set of the numbers below n of which p holds. -/
def setOf (p : Nat → Bool) : Nat → Nat
  | 0 => 0
  | n + 1 => setOf p n ||| (if p n then 2 ^ n else 0)
theorem tb_setOf (p : Nat → Bool) (n k : Nat) : (setOf p n).testBit k = (decide (k < n) && p k) := by
  induction n with
  | zero => simp [setOf]
  | succ n ih =>
    rw [setOf, Nat.testBit_or, ih]
    by_cases hp : p n
    · rw [if_pos hp, tb_pow]
      by_cases e : n = k
      · subst e; simp [hp]
      · rw [decide_eq_false e, Bool.or_false, show decide (k < n) = decide (k < n + 1) from by rw [decide_eq_decide]; omega]
    · rw [if_neg hp, Nat.zero_testBit]
      by_cases e : n = k
      · subst e; simp [hp]
      · rw [Bool.or_false, show decide (k < n) = decide (k < n + 1) from by rw [decide_eq_decide]; omega]
theorem setOf_lt (p : Nat → Bool) (n : Nat) : setOf p n < 2 ^ n := by
  induction n with
  | zero => simp [setOf]
  | succ n ih =>
    rw [setOf]
    have h1 : 2 ^ n < 2 ^ (n + 1) := Nat.pow_lt_pow_right (by decide) (by omega)
    refine Nat.or_lt_two_pow (Nat.lt_trans ih h1) ?_
    split
    · exact h1
    · exact Nat.two_pow_pos _
theorem setOf_lt32 (p : Nat → Bool) {n : Nat} (h : n ≤ 32) : setOf p n < 4294967296 := Nat.lt_of_lt_of_le (setOf_lt p n) (Nat.pow_le_pow_right (by decide) h)

/-- What is in a, and not in b. -/
def diff (a b : Nat) : Nat := a ^^^ (a &&& b)
theorem tb_diff (a b k : Nat) : (diff a b).testBit k = (a.testBit k && !b.testBit k) := by
  rw [diff, Nat.testBit_xor, Nat.testBit_and]; cases a.testBit k <;> cases b.testBit k <;> rfl
theorem diff_lt {a b : Nat} (ha : a < 4294967296) : diff a b < 4294967296 := Nat.xor_lt_two_pow (n := 32) ha (and_lt ha)
/-- What j must follow, as a set. -/
def need (c : List St) (j : Nat) : Nat := setOf (fun i => must (nth c i) (nth c j)) j
/-- A set of done ones, as it grows. -/
def doneOf (l : List Int) : Nat := l.foldl (fun s j => s ||| bt j) 0
theorem doneOf_snoc (l : List Int) (j : Int) : doneOf (l ++ [j]) = doneOf l ||| bt j := by simp [doneOf]
theorem tb_fold (l : List Int) (hl : ∀ x ∈ l, 0 ≤ x) (s k : Nat) : (l.foldl (fun s j => s ||| bt j) s).testBit k = (s.testBit k || l.contains (k : Int)) := by
  induction l generalizing s with
  | nil => simp
  | cons x l ih =>
    rw [List.foldl_cons, ih (fun y hy => hl y (List.mem_cons_of_mem _ hy)), Nat.testBit_or, bt, tb_pow]
    have h0 := hl x (List.mem_cons_self ..)
    have : decide (x.toNat = k) = ((k : Int) == x) := by
      rw [Bool.eq_iff_iff]; simp; omega
    rw [this, List.contains_cons, Bool.or_assoc]
theorem tb_doneOf {l : List Int} (hl : ∀ x ∈ l, 0 ≤ x) (k : Nat) : (doneOf l).testBit k = l.contains (k : Int) := by
  rw [doneOf, tb_fold l hl]; simp
theorem doneOf_lt {l : List Int} (hl : ∀ x ∈ l, x ≤ 31) : doneOf l < 4294967296 := by
  have : ∀ s, s < 4294967296 → l.foldl (fun s j => s ||| bt j) s < 4294967296 := by
    induction l with
    | nil => intro s hs; exact hs
    | cons x l ih =>
      intro s hs
      exact ih (fun y hy => hl y (List.mem_cons_of_mem _ hy)) _ (or_lt hs (bt_lt (hl x (List.mem_cons_self ..))))
  exact this 0 (by decide)
/-- Whether j can come next behind those of a list. -/
def nextOk (c : List St) (pre : List Int) (j : Int) : Bool :=
  decide (0 ≤ j ∧ j < c.length) && !pre.contains j && (List.range j.toNat).all fun i => !must (nth c i) (nth c j.toNat) || pre.contains (i : Int)
def isOrd (c : List St) (o : List Int) : Bool := o.length == c.length && (List.range o.length).all fun k => nextOk c (o.take k) (o.getD k 0)
def isOrder (c : List St) (o : List Int) : Bool := valid c && isOrd c o
theorem next_bits {c : List St} {pre : List Int} {j : Int} (hj : 0 ≤ j ∧ j < c.length) (hp : ∀ x ∈ pre, 0 ≤ x) :
    (!(doneOf pre ||| bt j == doneOf pre) && (diff (need c j.toNat) (doneOf pre) == 0)) = nextOk c pre j := by
  have e1 : (doneOf pre ||| bt j == doneOf pre) = pre.contains j := by
    rw [Bool.eq_iff_iff, beq_iff_eq, bt, or_pow_eq, tb_doneOf hp]
    rw [show ((j.toNat : Nat) : Int) = j by omega]
  have e2 : (diff (need c j.toNat) (doneOf pre) == 0) = (List.range j.toNat).all fun i => !must (nth c i) (nth c j.toNat) || pre.contains (i : Int) := by
    rw [Bool.eq_iff_iff, beq_iff_eq, eq_zero_iff]
    simp only [tb_diff, need, tb_setOf, tb_doneOf hp, List.all_eq_true, List.mem_range]
    constructor
    · intro h i hi
      have := h i
      cases hm : must (nth c i) (nth c j.toNat) <;> cases hc : pre.contains (i : Int) <;> simp_all
    · intro h i
      by_cases hi : i < j.toNat
      · have := h i hi
        cases hm : must (nth c i) (nth c j.toNat) <;> cases hc : pre.contains (i : Int) <;> simp_all
      · simp [hi]
  rw [e1, e2]
  simp [nextOk, hj]

/-- Every number but 0 is an odd one times a power of 2. -/
theorem odd_part : ∀ s : Nat, s ≠ 0 → ∃ t m, s = 2 ^ t * (2 * m + 1) := by
  intro s
  induction s using Nat.strongRecOn with
  | _ s ih =>
    intro h
    by_cases e : s % 2 = 1
    · exact ⟨0, s / 2, by simp; omega⟩
    · obtain ⟨t, m, hm⟩ := ih (s / 2) (by omega) (by omega)
      refine ⟨t + 1, m, ?_⟩
      have : s = 2 * (s / 2) := by omega
      rw [Nat.pow_succ, Nat.mul_comm (2 ^ t) 2, Nat.mul_assoc, ← hm]; exact this
theorem tb_odd (t m k : Nat) : (2 ^ t * (2 * m + 1)).testBit k = (decide (k = t) || (decide (t < k) && m.testBit (k - t - 1))) := by
  rw [Nat.testBit_two_pow_mul]
  by_cases h1 : k < t
  · rw [decide_eq_false (by omega), decide_eq_false (by omega), decide_eq_false (by omega)]; rfl
  · by_cases h2 : k = t
    · subst h2; simp
    · rw [decide_eq_true (by omega), decide_eq_false h2, decide_eq_true (by omega)]
      obtain ⟨i, rfl⟩ : ∃ i, k = t + 1 + i := ⟨k - t - 1, by omega⟩
      rw [show t + 1 + i - t = i + 1 by omega, Nat.testBit_add_one]
      simp
      congr 1
      omega
theorem clear_low (t m : Nat) : (2 ^ t * (2 * m + 1)) &&& (2 ^ t * (2 * m + 1) - 1) = 2 ^ (t + 1) * m := by
  have hp := Nat.two_pow_pos t
  have e : 2 ^ t * (2 * m + 1) - 1 = 2 ^ t * (2 * m) + (2 ^ t - 1) := by rw [Nat.mul_add, Nat.mul_one]; omega
  refine Nat.eq_of_testBit_eq fun k => ?_
  rw [Nat.testBit_and, tb_odd, e, Nat.testBit_two_pow_mul_add _ (by omega), Nat.testBit_two_pow_mul]
  by_cases h1 : k < t
  · rw [decide_eq_false (show ¬ k = t by omega), decide_eq_false (show ¬ t < k by omega), decide_eq_false (show ¬ k ≥ t + 1 by omega)]; rfl
  · by_cases h2 : k = t
    · subst h2
      rw [if_neg h1, Nat.sub_self, Nat.testBit_zero, decide_eq_false (show ¬ k ≥ k + 1 by omega)]
      simp
    · obtain ⟨i, rfl⟩ : ∃ i, k = t + 1 + i := ⟨k - t - 1, by omega⟩
      rw [if_neg h1, show t + 1 + i - t = i + 1 by omega, show t + 1 + i - (t + 1) = i by omega, show i + 1 - 1 = i by omega, Nat.testBit_add_one]
      rw [show 2 * m / 2 = m by omega, decide_eq_true (show t < t + 1 + i by omega), decide_eq_true (show t + 1 + i ≥ t + 1 by omega)]
      cases m.testBit i <;> simp
theorem low_bit (t m : Nat) (h : 2 ^ t * (2 * m + 1) < 4294967296) : (2 ^ t * (2 * m + 1)) &&& (4294967296 - 2 ^ t * (2 * m + 1)) = 2 ^ t ∧ t < 32 := by
  have ht : t < 32 := by
    rcases Nat.lt_or_ge t 32 with h1 | h1
    · exact h1
    · exfalso
      have : 2 ^ 32 ≤ 2 ^ t := Nat.pow_le_pow_right (by decide) h1
      have h2 : 2 ^ t ≤ 2 ^ t * (2 * m + 1) := Nat.le_mul_of_pos_right _ (by omega)
      omega
  refine ⟨?_, ht⟩
  obtain ⟨r, hr⟩ : ∃ r, t + r = 31 := ⟨31 - t, by omega⟩
  have hN : 4294967296 = 2 ^ t * (2 * 2 ^ r) := by
    have : 2 ^ t * (2 * 2 ^ r) = 2 ^ (t + r) * 2 := by rw [Nat.pow_add, Nat.mul_comm 2, Nat.mul_assoc]
    rw [this, hr]
  have hm : 2 * m + 1 < 2 * 2 ^ r := by
    rw [hN] at h
    exact Nat.lt_of_mul_lt_mul_left h
  have e : 4294967296 - 2 ^ t * (2 * m + 1) = 2 ^ t * (2 * (2 ^ r - (m + 1)) + 1) := by
    rw [hN, ← Nat.mul_sub]; congr 1; omega
  rw [e]
  refine Nat.eq_of_testBit_eq fun k => ?_
  rw [Nat.testBit_and, tb_odd, tb_odd, tb_pow, Nat.testBit_two_pow_sub_succ (show m < 2 ^ r by omega)]
  by_cases h2 : k = t
  · subst h2; simp
  · rw [decide_eq_false h2, decide_eq_false (show ¬ t = k from fun e => h2 (Eq.symm e))]
    cases m.testBit (k - t - 1) <;> simp
/-- The numbers in a set, ascending. -/
def mems (s : Nat) : List Nat := (List.range 32).filter fun k => s.testBit k
def memsI (s : Nat) : List Int := (mems s).map Int.ofNat
theorem filter_range_first {n t : Nat} {p q : Nat → Bool} (ht : t < n) (hp : p t = true) (hlo : ∀ k, k < t → p k = false) (hq : ∀ k, q k = (p k && !decide (k = t))) :
    (List.range n).filter p = t :: (List.range n).filter q := by
  induction n with
  | zero => omega
  | succ n ih =>
    rw [List.range_succ, List.filter_append, List.filter_append]
    by_cases e : t = n
    · subst e
      have h1 : (List.range t).filter p = [] := List.filter_eq_nil_iff.2 fun k hk => by rw [hlo k (List.mem_range.1 hk)]; simp
      have h2 : (List.range t).filter q = [] := List.filter_eq_nil_iff.2 fun k hk => by rw [hq, hlo k (List.mem_range.1 hk)]; simp
      rw [h1, h2]
      simp [hp, hq]
    · rw [ih (by omega)]
      have : q n = p n := by rw [hq, decide_eq_false (by omega)]; simp
      simp only [List.filter_cons, List.filter_nil, this]; rfl
/-- A round of the loop that lists a set: its least number t goes, and stands ahead of the rest. -/
theorem mems_step {s : Nat} (h0 : s ≠ 0) (h : s < 4294967296) : ∃ t, t < 32 ∧ s &&& (4294967296 - s) = 2 ^ t ∧ mems s = t :: mems (s &&& (s - 1)) ∧ (s &&& (s - 1)) < s := by
  obtain ⟨t, m, rfl⟩ := odd_part s h0
  obtain ⟨h1, h2⟩ := low_bit t m h
  refine ⟨t, h2, h1, ?_, ?_⟩
  · refine filter_range_first h2 (by rw [tb_odd]; simp) (fun k hk => ?_) fun k => ?_
    · rw [tb_odd, decide_eq_false (by omega), decide_eq_false (by omega)]; rfl
    · rw [clear_low, tb_odd, Nat.testBit_two_pow_mul]
      by_cases e : k = t
      · subst e; rw [decide_eq_false (show ¬ k ≥ k + 1 by omega)]; simp
      · rw [decide_eq_false e]
        rw [show decide (k ≥ t + 1) = decide (t < k) from rfl, show k - (t + 1) = k - t - 1 by omega]
        simp
  · have h3 : 2 ^ t * (2 * m + 1) &&& (2 ^ t * (2 * m + 1) - 1) ≤ 2 ^ t * (2 * m + 1) - 1 := Nat.and_le_right
    omega
theorem mems_zero : mems 0 = [] := List.filter_eq_nil_iff.2 fun k _ => by simp
theorem mems_len (s : Nat) : (mems s).length ≤ 32 := by
  have := List.length_filter_le (fun k => s.testBit k) (List.range 32)
  simpa [mems] using this
theorem mem_memsI {s : Nat} {n : Int} (h0 : 0 ≤ n) (h1 : n ≤ 31) : (memsI s).contains n = s.testBit n.toNat := by
  rw [Bool.eq_iff_iff]
  simp only [memsI, mems, List.contains_iff_mem, List.mem_map, List.mem_filter, List.mem_range]
  constructor
  · rintro ⟨k, ⟨_, hk⟩, rfl⟩; simpa using hk
  · intro h; exact ⟨n.toNat, ⟨by omega, h⟩, by show ((n.toNat : Nat) : Int) = n; omega⟩

/-- The levels. -/
def lvAt (c : List St) (ls : List Int) (j n : Nat) : Int := (List.range n).foldl (fun m i => if must (nth c i) (nth c j) then max m (ls.getD i 0 + 1) else m) 0
def levs (c : List St) : Nat → List Int
  | 0 => []
  | j + 1 => levs c j ++ [lvAt c (levs c j) j j]
def levels (c : List St) : List Int := levs c c.length
theorem levs_len (c : List St) (j : Nat) : (levs c j).length = j := by induction j with
  | zero => rfl
  | succ j ih => simp [levs, ih]
theorem lvAt_succ (c : List St) (ls : List Int) (j n : Nat) : lvAt c ls j (n + 1) = if must (nth c n) (nth c j) then max (lvAt c ls j n) (ls.getD n 0 + 1) else lvAt c ls j n := by
  simp [lvAt, List.range_succ]
theorem filter_range_le {n m : Nat} {p : Nat → Bool} (h : n ≤ m) (hp : ∀ k, n ≤ k → p k = false) : (List.range m).filter p = (List.range n).filter p := by
  induction m with
  | zero => have : n = 0 := by omega
            subst this; rfl
  | succ m ih =>
    by_cases e : n = m + 1
    · subst e; rfl
    · rw [List.range_succ, List.filter_append, ih (by omega)]
      simp [hp m (by omega)]
theorem mems_need (c : List St) {j : Nat} (h : j ≤ 32) : mems (need c j) = (List.range j).filter fun i => must (nth c i) (nth c j) := by
  unfold mems
  rw [filter_range_le h fun k hk => by rw [need, tb_setOf, decide_eq_false (by omega)]; rfl]
  refine List.filter_congr fun k hk => ?_
  rw [need, tb_setOf, decide_eq_true (List.mem_range.1 hk)]; rfl
theorem lvAt_mems (c : List St) (ls : List Int) {j : Nat} (h : j ≤ 32) : lvAt c ls j j = (mems (need c j)).foldl (fun m i => max m (ls.getD i 0 + 1)) 0 := by
  rw [mems_need c h, List.foldl_filter]; rfl

/-- A number put to its place among rising ones. -/
def put (l : List Int) (n : Int) : List Int :=
  match l with
  | [] => [n]
  | x :: r => if x < n then x :: put r n else if x = n then x :: r else n :: x :: r
theorem put_all_gt {l : List Int} {n : Int} (h : ∀ x ∈ l, n < x) : put l n = n :: l := by
  cases l with
  | nil => rfl
  | cons x r =>
    have := h x (List.mem_cons_self ..)
    rw [put, if_neg (by omega), if_neg (by omega)]
theorem put_range' (p : Nat → Bool) (n : Nat) : ∀ len a, a ≤ n → n < a + len →
    put (((List.range' a len).filter p).map Int.ofNat) (n : Int) = ((List.range' a len).filter fun k => p k || decide (n = k)).map Int.ofNat := by
  intro len
  induction len with
  | zero => intro a h1 h2; omega
  | succ len ih =>
    intro a h1 h2
    rw [List.range'_succ]
    by_cases e : a = n
    · subst e
      have hc : (List.range' (a + 1) len).filter (fun k => p k || decide (a = k)) = (List.range' (a + 1) len).filter p :=
        List.filter_congr fun k hk => by
          have := (List.mem_range'_1.1 hk).1
          rw [decide_eq_false (by omega)]; simp
      rw [List.filter_cons (p := fun k => p k || decide (a = k)), decide_eq_true rfl, Bool.or_true, if_pos rfl, hc]
      rw [List.filter_cons]
      by_cases hp : p a = true
      · rw [if_pos hp, List.map_cons, put, if_neg (by simp), if_pos (by simp)]
      · rw [if_neg hp, put_all_gt]
        · rfl
        · intro x hx
          obtain ⟨k, hk, rfl⟩ := List.mem_map.1 hx
          have := (List.mem_range'_1.1 (List.mem_filter.1 hk).1).1
          show (a : Int) < (k : Int)
          omega
    · rw [List.filter_cons, List.filter_cons, decide_eq_false (show ¬ n = a by omega), Bool.or_false]
      have := ih (a + 1) (by omega) (by omega)
      by_cases hp : p a = true
      · rw [if_pos hp, if_pos hp, List.map_cons, List.map_cons, put, if_pos (by show (a : Int) < (n : Int); omega), this]
      · rw [if_neg hp, if_neg hp, this]
theorem put_memsI (s : Nat) {n : Int} (h0 : 0 ≤ n) (h1 : n ≤ 31) : put (memsI s) n = memsI (s ||| bt n) := by
  obtain ⟨k, rfl⟩ := Int.eq_ofNat_of_zero_le h0
  have := put_range' (fun k => s.testBit k) k 32 0 (by omega) (by omega)
  unfold memsI mems
  rw [List.range_eq_range']
  rw [this]
  congr 1
  exact List.filter_congr fun j _ => by rw [Nat.testBit_or, bt, Int.toNat_natCast, tb_pow]

/-- The cells that are read before they are written, and those that are written. -/
def insStep (st : Nat × Nat) (x : St) : Nat × Nat := (st.1 ||| diff (bt x.a ||| bt x.b) st.2, st.2 ||| bt x.d)
def insOf (c : List St) : Nat × Nat := c.foldl insStep (0, 0)
def inputs (c : List St) : List Int := memsI (insOf c).1
def outputs (c : List St) : List Int := memsI (insOf c).2
theorem insStep_lt {st : Nat × Nat} {x : St} (hx : ok x = true) (h1 : st.1 < 4294967296) (h2 : st.2 < 4294967296) : (insStep st x).1 < 4294967296 ∧ (insStep st x).2 < 4294967296 := by
  obtain ⟨_, hd, ha, hb⟩ := ok_cells hx
  exact ⟨or_lt h1 (diff_lt (or_lt (bt_lt ha.2) (bt_lt hb.2))), or_lt h2 (bt_lt hd.2)⟩
/-- The model's step over the inputs: both cells, each by itself. -/
theorem insStep_two {st : Nat × Nat} {x : St} (hx : ok x = true) : memsI (insStep st x).1 = (let i1 := if (memsI st.2).contains x.a then memsI st.1 else put (memsI st.1) x.a
    if (memsI st.2).contains x.b then i1 else put i1 x.b) := by
  obtain ⟨_, hd, ha, hb⟩ := ok_cells hx
  rw [mem_memsI ha.1 ha.2, mem_memsI hb.1 hb.2]
  have e : ∀ s (n : Int), 0 ≤ n → n ≤ 31 → (if st.2.testBit n.toNat = true then memsI s else put (memsI s) n) = memsI (if st.2.testBit n.toNat = true then s else s ||| bt n) := by
    intro s n h0 h1
    split
    · rfl
    · exact put_memsI s h0 h1
  show _ = if st.2.testBit x.b.toNat = true then (if st.2.testBit x.a.toNat = true then memsI st.1 else put (memsI st.1) x.a) else put (if st.2.testBit x.a.toNat = true then memsI st.1 else put (memsI st.1) x.a) x.b
  rw [e st.1 x.a ha.1 ha.2, e _ x.b hb.1 hb.2]
  congr 1
  refine Nat.eq_of_testBit_eq fun k => ?_
  simp only [insStep, Nat.testBit_or, tb_diff, bt, tb_pow]
  by_cases e1 : x.a.toNat = k
  · subst e1
    by_cases e2 : x.b.toNat = x.a.toNat
    · rw [e2]; cases h : st.2.testBit x.a.toNat <;> simp [Nat.testBit_or, tb_pow, h]
    · cases h : st.2.testBit x.a.toNat <;> cases h' : st.2.testBit x.b.toNat <;> simp [Nat.testBit_or, tb_pow, h, e2]
  · by_cases e2 : x.b.toNat = k
    · subst e2
      cases h : st.2.testBit x.a.toNat <;> cases h' : st.2.testBit x.b.toNat <;> simp [Nat.testBit_or, tb_pow, h', e1]
    · cases h : st.2.testBit x.a.toNat <;> cases h' : st.2.testBit x.b.toNat <;> simp [Nat.testBit_or, tb_pow, e1, e2]
end Sc
