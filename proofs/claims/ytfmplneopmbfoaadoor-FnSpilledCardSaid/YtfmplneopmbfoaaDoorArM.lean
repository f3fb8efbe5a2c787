/-
  Registers for ranges: the ranges by their starts, the least register that is free for each of them. Plain mathematics.
-/
import Derived.Test.YtfmplneopmbfoaaDoorSpM
set_option linter.unusedVariables false
namespace Ar
open Rg
def fr (rs : List R) (i : Nat) : Int := (nth rs i).f
def bef (rs : List R) (i j : Nat) : Prop := fr rs i < fr rs j ∨ (fr rs i = fr rs j ∧ i < j)
def insB (rs : List R) (x : Nat) : List Nat → List Nat
  | [] => [x]
  | y :: l => if fr rs x < fr rs y then x :: y :: l else y :: insB rs x l
def ord (rs : List R) : Nat → List Nat
  | 0 => []
  | i + 1 => insB rs i (ord rs i)
theorem mem_ins (rs : List R) (x z : Nat) (l : List Nat) : z ∈ insB rs x l ↔ z = x ∨ z ∈ l := by
  induction l with
  | nil => simp [insB]
  | cons y l ih =>
    rw [insB]
    split
    · simp
    · rw [List.mem_cons, List.mem_cons, ih]
      constructor
      · rintro (h | h | h)
        · exact .inr (.inl h)
        · exact .inl h
        · exact .inr (.inr h)
      · rintro (h | h | h)
        · exact .inr (.inl h)
        · exact .inl h
        · exact .inr (.inr h)
theorem len_ins (rs : List R) (x : Nat) (l : List Nat) : (insB rs x l).length = l.length + 1 := by
  induction l with
  | nil => rfl
  | cons y l ih => rw [insB]; split <;> simp [ih]
theorem ord_len (rs : List R) (i : Nat) : (ord rs i).length = i := by
  induction i with
  | zero => rfl
  | succ i ih => rw [ord, len_ins, ih]
theorem ord_mem (rs : List R) (i z : Nat) : z ∈ ord rs i ↔ z < i := by
  induction i with
  | zero => simp [ord]
  | succ i ih => rw [ord, mem_ins, ih]; omega
theorem bef_tr {rs : List R} {a b c : Nat} (h : bef rs a b) (k : bef rs b c) : bef rs a c := by unfold bef at *; omega
theorem bef_irr {rs : List R} {a : Nat} (h : bef rs a a) : False := by unfold bef at h; omega
theorem ins_sorted {rs : List R} {x : Nat} {l : List Nat} (h : l.Pairwise (bef rs)) (hx : ∀ y ∈ l, y < x) : (insB rs x l).Pairwise (bef rs) := by
  induction l with
  | nil => simp [insB]
  | cons y l ih =>
    rw [List.pairwise_cons] at h
    rw [insB]
    split
    next hlt =>
      rw [List.pairwise_cons]
      refine ⟨fun z hz => ?_, List.pairwise_cons.2 h⟩
      rcases List.mem_cons.1 hz with rfl | hz
      · exact .inl hlt
      · exact bef_tr (.inl hlt) (h.1 z hz)
    next hlt =>
      rw [List.pairwise_cons]
      refine ⟨fun z hz => ?_, ih h.2 (fun w hw => hx w (List.mem_cons_of_mem _ hw))⟩
      rcases (mem_ins rs x z l).1 hz with rfl | hz
      · have := hx y (List.mem_cons_self ..)
        unfold bef; omega
      · exact h.1 z hz
theorem ord_sorted (rs : List R) (i : Nat) : (ord rs i).Pairwise (bef rs) := by
  induction i with
  | zero => exact List.Pairwise.nil
  | succ i ih => exact ins_sorted ih fun y hy => (ord_mem rs i y).1 hy
/-- Where the new one comes to stand. -/
theorem ins_at {rs : List R} {x : Nat} : ∀ (l : List Nat) (j : Nat), j ≤ l.length → (∀ y ∈ l.drop j, fr rs x < fr rs y) → (∀ y ∈ l.take j, ¬ fr rs x < fr rs y) → insB rs x l = l.take j ++ x :: l.drop j := by
  intro l
  induction l with
  | nil => intro j hj _ _; simp [insB]
  | cons y l ih =>
    intro j hj h1 h2
    cases j with
    | zero =>
      rw [insB, if_pos (h1 y (by simp))]; rfl
    | succ j =>
      rw [insB, if_neg (h2 y (by simp)), ih j (by simpa using hj) (fun z hz => h1 z (by simpa using hz)) (fun z hz => h2 z (by simp [hz]))]
      rfl
theorem ord_le {rs : List R} {i a b : Nat} (hab : a ≤ b) (hb : b < i) : fr rs ((ord rs i).getD a 0) ≤ fr rs ((ord rs i).getD b 0) := by
  rcases Nat.eq_or_lt_of_le hab with rfl | h
  · exact Int.le_refl _
  · have hs := ord_sorted rs i
    rw [List.pairwise_iff_getElem] at hs
    have hl := ord_len rs i
    have := hs a b (by omega) (by omega) h
    rw [List.getD_eq_getElem?_getD, List.getD_eq_getElem?_getD, List.getElem?_eq_getElem (by omega), List.getElem?_eq_getElem (by omega)]
    simp only [Option.getD_some]
    unfold bef at this; omega
theorem ord_bef {rs : List R} {i a b : Nat} (hab : a < b) (hb : b < i) : bef rs ((ord rs i).getD a 0) ((ord rs i).getD b 0) := by
  have hs := ord_sorted rs i
  rw [List.pairwise_iff_getElem] at hs
  have hl := ord_len rs i
  have := hs a b (by omega) (by omega) hab
  rw [List.getD_eq_getElem?_getD, List.getD_eq_getElem?_getD, List.getElem?_eq_getElem (by omega), List.getElem?_eq_getElem (by omega)]
  exact this
theorem ord_at_lt {rs : List R} {i a : Nat} (ha : a < i) : (ord rs i).getD a 0 < i := by
  have hl := ord_len rs i
  rw [List.getD_eq_getElem?_getD, List.getElem?_eq_getElem (by omega)]
  exact (ord_mem rs i _).1 (List.getElem_mem _)
theorem ord_inj {rs : List R} {i a b : Nat} (ha : a < i) (hb : b < i) (h : (ord rs i).getD a 0 = (ord rs i).getD b 0) : a = b := by
  rcases Nat.lt_trichotomy a b with h1 | h1 | h1
  · have := ord_bef (rs := rs) h1 hb; rw [h] at this; exact (bef_irr this).elim
  · exact h1
  · have := ord_bef (rs := rs) h1 ha; rw [h] at this; exact (bef_irr this).elim
theorem ord_has {rs : List R} {i z : Nat} (hz : z < i) : ∃ a, a < i ∧ (ord rs i).getD a 0 = z := by
  obtain ⟨a, ha, e⟩ := List.getElem_of_mem ((ord_mem rs i z).2 hz)
  have hl := ord_len rs i
  exact ⟨a, by omega, by rw [List.getD_eq_getElem?_getD, List.getElem?_eq_getElem ha]; exact e⟩
/-- The list as it is while the one at i moves to its place: it stands at j. -/
def mid (rs : List R) (n i j : Nat) : List Nat := (ord rs i).take j ++ i :: ((ord rs i).drop j ++ List.range' (i + 1) (n - (i + 1)))
theorem mid_len (rs : List R) {n i j : Nat} (hi : i < n) (hj : j ≤ i) : (mid rs n i j).length = n := by
  have := ord_len rs i
  simp [mid]; omega
def beg (rs : List R) (n i : Nat) : List Nat := ord rs i ++ List.range' i (n - i)
theorem beg_len (rs : List R) {n i : Nat} (hi : i ≤ n) : (beg rs n i).length = n := by
  have := ord_len rs i
  simp [beg]; omega
theorem beg_one (rs : List R) {n : Nat} (h : 0 < n) : beg rs n 1 = List.range n := by
  rw [beg, List.range_eq_range']
  obtain ⟨m, rfl⟩ : ∃ m, n = m + 1 := ⟨n - 1, by omega⟩
  rw [List.range'_succ]
  rfl
theorem beg_all (rs : List R) (n : Nat) : beg rs n n = ord rs n := by simp [beg]
theorem beg_mid (rs : List R) {n i : Nat} (h : i < n) : beg rs n i = mid rs n i i := by
  have hl := ord_len rs i
  rw [beg, mid, List.take_of_length_le (by omega), List.drop_of_length_le (by omega)]
  obtain ⟨m, hm⟩ : ∃ m, n - i = m + 1 := ⟨n - i - 1, by omega⟩
  rw [hm, List.range'_succ, show n - (i + 1) = m by omega]
  rfl
theorem mid_beg (rs : List R) {n i j : Nat} (h : i < n) (hj : j ≤ i) (h1 : ∀ y ∈ (ord rs i).drop j, fr rs i < fr rs y) (h2 : j = 0 ∨ ¬ fr rs i < fr rs ((ord rs i).getD (j - 1) 0)) : mid rs n i j = beg rs n (i + 1) := by
  have hl := ord_len rs i
  rw [beg, ord, ins_at _ j (by omega) h1, mid]
  · simp
  · intro y hy
    rcases h2 with rfl | h2
    · simp at hy
    · obtain ⟨a, ha, e⟩ := List.getElem_of_mem hy
      rw [List.length_take] at ha
      rw [List.getElem_take] at e
      have := ord_le (rs := rs) (i := i) (a := a) (b := j - 1) (by omega) (by omega)
      rw [List.getD_eq_getElem?_getD, List.getElem?_eq_getElem (by omega)] at this
      simp only [Option.getD_some] at this
      rw [e] at this
      omega
theorem mid_j (rs : List R) {n i j : Nat} (hj : j ≤ i) : (mid rs n i j).getD j 0 = i := by
  have hl := ord_len rs i
  rw [mid, List.getD_eq_getElem?_getD, List.getElem?_append_right (by rw [List.length_take]; omega), List.length_take, show j - min j (ord rs i).length = 0 by omega]
  rfl
theorem mid_j1 (rs : List R) {n i j : Nat} (h0 : 0 < j) (hj : j ≤ i) : (mid rs n i j).getD (j - 1) 0 = (ord rs i).getD (j - 1) 0 := by
  have hl := ord_len rs i
  rw [mid, List.getD_eq_getElem?_getD, List.getElem?_append_left (by rw [List.length_take]; omega), List.getElem?_take_of_lt (by omega), ← List.getD_eq_getElem?_getD]
theorem mid_swap (rs : List R) {n i j : Nat} (h : i < n) (h0 : 0 < j) (hj : j ≤ i) : ((mid rs n i j).set j ((ord rs i).getD (j - 1) 0)).set (j - 1) i = mid rs n i (j - 1) := by
  have hl := ord_len rs i
  refine List.ext_getElem? fun k => ?_
  have e1 : (mid rs n i j).length = n := mid_len rs h hj
  rw [List.getElem?_set, List.getElem?_set, List.length_set, e1]
  have hd : (ord rs i)[j - 1]? = some ((ord rs i).getD (j - 1) 0) := by rw [List.getD_eq_getElem?_getD, List.getElem?_eq_getElem (by omega)]; rfl
  by_cases k1 : j - 1 = k
  · subst k1
    rw [if_pos rfl, if_pos (by omega), mid, List.getElem?_append_right (by rw [List.length_take]; omega), List.length_take, show j - 1 - min (j - 1) (ord rs i).length = 0 by omega]
    rfl
  · rw [if_neg k1]
    by_cases k2 : j = k
    · subst k2
      rw [if_pos rfl, if_pos (by omega), mid, List.getElem?_append_right (by rw [List.length_take]; omega), List.length_take, show j - min (j - 1) (ord rs i).length = 0 + 1 by omega]
      rw [List.getElem?_cons_succ, List.getElem?_append_left (by rw [List.length_drop]; omega), List.getElem?_drop, Nat.add_zero, hd]
    · rw [if_neg k2]
      by_cases k3 : k < j - 1
      · rw [mid, mid, List.getElem?_append_left (by rw [List.length_take]; omega), List.getElem?_append_left (by rw [List.length_take]; omega), List.getElem?_take_of_lt (by omega), List.getElem?_take_of_lt (by omega)]
      · rw [mid, mid, List.getElem?_append_right (by rw [List.length_take]; omega), List.getElem?_append_right (by rw [List.length_take]; omega), List.length_take, List.length_take]
        obtain ⟨x, rfl⟩ : ∃ x, k = j + 1 + x := ⟨k - j - 1, by omega⟩
        rw [show j + 1 + x - min j (ord rs i).length = x + 1 by omega, show j + 1 + x - min (j - 1) (ord rs i).length = (x + 1) + 1 by omega, List.getElem?_cons_succ, List.getElem?_cons_succ]
        by_cases k4 : j + x < i
        · rw [List.getElem?_append_left (by rw [List.length_drop]; omega), List.getElem?_append_left (by rw [List.length_drop]; omega), List.getElem?_drop, List.getElem?_drop]
          congr 1
          omega
        · rw [List.getElem?_append_right (by rw [List.length_drop]; omega), List.getElem?_append_right (by rw [List.length_drop]; omega), List.length_drop, List.length_drop]
          congr 1
          omega
theorem drop_lt {rs : List R} {i j : Nat} (h0 : 0 < j) (hj : j ≤ i) (h1 : ∀ y ∈ (ord rs i).drop j, fr rs i < fr rs y) (h2 : fr rs i < fr rs ((ord rs i).getD (j - 1) 0)) : ∀ y ∈ (ord rs i).drop (j - 1), fr rs i < fr rs y := by
  have hl := ord_len rs i
  intro y hy
  rw [List.drop_eq_getElem_cons (by omega)] at hy
  rcases List.mem_cons.1 hy with rfl | hy
  · rw [List.getD_eq_getElem?_getD, List.getElem?_eq_getElem (by omega)] at h2; exact h2
  · rw [show j - 1 + 1 = j by omega] at hy
    exact h1 y hy
/-- Two ranges meet. -/
def meets (r o : R) : Bool := decide (r.f < o.t) && decide (o.f < r.t)
/-- The least number that a set does not have. -/
def lm (s : Nat) : Nat := ((List.range 32).find? fun k => !s.testBit k).getD 32
theorem lm_spec {s b : Nat} (hb : b < 32) (h : s.testBit b = false) : lm s ≤ b ∧ s.testBit (lm s) = false ∧ ∀ j, j < lm s → s.testBit j = true := by
  unfold lm
  cases e : (List.range 32).find? fun k => !s.testBit k with
  | none =>
    rw [List.find?_eq_none] at e
    have := e b (List.mem_range.2 hb)
    rw [h] at this; simp at this
  | some x =>
    rw [List.find?_range_eq_some] at e
    obtain ⟨e1, e2, e3⟩ := e
    simp only [Option.getD_some]
    refine ⟨?_, by simpa using e1, fun j hj => by have := e3 j hj; simpa using this⟩
    rcases Nat.lt_or_ge b x with hx | hx
    · have := e3 b hx; rw [h] at this; simp at this
    · exact hx
theorem lm_eq {s t : Nat} (ht : t < 32) (h : s.testBit t = false) (hl : ∀ j, j < t → s.testBit j = true) : lm s = t := by
  obtain ⟨h1, h2, h3⟩ := lm_spec ht h
  rcases Nat.lt_or_ge (lm s) t with hx | hx
  · rw [hl _ hx] at h2; cases h2
  · omega
/-- The registers of those of the first k, in the order, that meet the one at m. -/
def tkn (rs : List R) (L : List Nat) (g : Nat → Nat) (m : Nat) : Nat → Nat
  | 0 => 0
  | k + 1 => if meets (nth rs (L.getD m 0)) (nth rs (L.getD k 0)) then tkn rs L g m k ||| 2 ^ g k else tkn rs L g m k
theorem tkn_congr {rs : List R} {L : List Nat} {g g' : Nat → Nat} {m k : Nat} (h : ∀ j, j < k → g j = g' j) : tkn rs L g m k = tkn rs L g' m k := by
  induction k with
  | zero => rfl
  | succ k ih => rw [tkn, tkn, ih (fun j hj => h j (by omega)), h k (by omega)]
theorem tb_tkn (rs : List R) (L : List Nat) (g : Nat → Nat) (m k b : Nat) : (tkn rs L g m k).testBit b = true ↔ ∃ j, j < k ∧ meets (nth rs (L.getD m 0)) (nth rs (L.getD j 0)) = true ∧ g j = b := by
  induction k with
  | zero => simp [tkn]
  | succ k ih =>
    rw [tkn]
    split
    next hm =>
      rw [Nat.testBit_or, Sc.tb_pow, Bool.or_eq_true, ih]
      constructor
      · rintro (⟨j, h1, h2⟩ | h)
        · exact ⟨j, by omega, h2⟩
        · exact ⟨k, by omega, hm, by simpa using h⟩
      · rintro ⟨j, h1, h2, h3⟩
        rcases Nat.lt_or_ge j k with h | h
        · exact .inl ⟨j, h, h2, h3⟩
        · obtain rfl : j = k := by omega
          exact .inr (by simp [h3])
    next hm =>
      rw [ih]
      constructor
      · rintro ⟨j, h1, h2⟩; exact ⟨j, by omega, h2⟩
      · rintro ⟨j, h1, h2, h3⟩
        rcases Nat.lt_or_ge j k with h | h
        · exact ⟨j, h, h2, h3⟩
        · obtain rfl : j = k := by omega
          exact absurd h2 hm
def regs (rs : List R) (L : List Nat) : Nat → List Nat
  | 0 => []
  | m + 1 => regs rs L m ++ [lm (tkn rs L (fun k => (regs rs L m).getD k 0) m m)]
theorem regs_len (rs : List R) (L : List Nat) (m : Nat) : (regs rs L m).length = m := by
  induction m with
  | zero => rfl
  | succ m ih => simp [regs, ih]
/-- The register of the one at m. -/
def rg (rs : List R) (L : List Nat) (m : Nat) : Nat := (regs rs L (m + 1)).getD m 0
theorem regs_getD (rs : List R) (L : List Nat) {m k : Nat} (h : k < m) : (regs rs L m).getD k 0 = rg rs L k := by
  induction m with
  | zero => omega
  | succ m ih =>
    by_cases e : k = m
    · subst e; rfl
    · rw [regs, List.getD_eq_getElem?_getD, List.getElem?_append_left (by rw [regs_len]; omega), ← List.getD_eq_getElem?_getD]
      exact ih (by omega)
theorem rg_eq (rs : List R) (L : List Nat) (m : Nat) : rg rs L m = lm (tkn rs L (rg rs L) m m) := by
  rw [rg, regs, List.getD_eq_getElem?_getD, List.getElem?_append_right (by rw [regs_len]; omega), regs_len, Nat.sub_self]
  show lm _ = _
  rw [tkn_congr fun j hj => regs_getD rs L hj]
/-- What is assigned behind the first m. -/
def asg (rs : List R) (L : List Nat) (d : Int) : Nat → List Int
  | 0 => List.replicate rs.length d
  | m + 1 => (asg rs L d m).set (L.getD m 0) (rg rs L m : Int)
theorem asg_len (rs : List R) (L : List Nat) (d : Int) (m : Nat) : (asg rs L d m).length = rs.length := by
  induction m with
  | zero => simp [asg]
  | succ m ih => rw [asg, List.length_set, ih]
theorem asg_at (rs : List R) (d : Int) {m j : Nat} (hm : m ≤ rs.length) (hj : j < m) : (asg rs (ord rs rs.length) d m).getD ((ord rs rs.length).getD j 0) 0 = (rg rs (ord rs rs.length) j : Int) := by
  induction m with
  | zero => omega
  | succ m ih =>
    rw [asg, List.getD_eq_getElem?_getD, List.getElem?_set]
    by_cases e : j = m
    · subst e
      rw [if_pos rfl, if_pos (by rw [asg_len]; exact ord_at_lt (by omega))]; rfl
    · rw [if_neg (fun h => e (ord_inj (by omega) (by omega) h.symm)), ← List.getD_eq_getElem?_getD]
      exact ih (by omega) (by omega)
theorem asg_not (rs : List R) (d : Int) {m z : Nat} (hz : z < rs.length) (hn : ∀ j, j < m → (ord rs rs.length).getD j 0 ≠ z) : (asg rs (ord rs rs.length) d m).getD z 0 = d := by
  induction m with
  | zero => rw [asg, List.getD_eq_getElem?_getD, List.getElem?_replicate, if_pos hz]; rfl
  | succ m ih =>
    rw [asg, List.getD_eq_getElem?_getD, List.getElem?_set, if_neg (hn m (by omega)), ← List.getD_eq_getElem?_getD]
    exact ih fun j hj => hn j (by omega)
theorem asg_full (rs : List R) (d d' : Int) : asg rs (ord rs rs.length) d rs.length = asg rs (ord rs rs.length) d' rs.length := by
  refine List.ext_getElem (by rw [asg_len, asg_len]) fun z h1 h2 => ?_
  rw [asg_len] at h1
  obtain ⟨j, hj, e⟩ := ord_has (rs := rs) h1
  have a := asg_at rs d (Nat.le_refl _) hj
  have b := asg_at rs d' (Nat.le_refl _) hj
  rw [e] at a b
  rw [List.getD_eq_getElem?_getD, List.getElem?_eq_getElem (by rw [asg_len]; omega)] at a b
  simp only [Option.getD_some] at a b
  rw [a, b]
/-- The first that gets no register. -/
def badAt (rs : List R) (r : Int) (m : Nat) : Bool := (List.range m).any fun k => decide (r ≤ (rg rs (ord rs rs.length) k : Int))
theorem bad_no {rs : List R} {r : Int} {m : Nat} (h : badAt rs r m = false) {k : Nat} (hk : k < m) : (rg rs (ord rs rs.length) k : Int) < r := by
  rw [badAt, List.any_eq_false] at h
  have := h k (List.mem_range.2 hk)
  simp only [decide_eq_true_eq] at this
  omega
theorem bad_succ (rs : List R) (r : Int) (m : Nat) : badAt rs r (m + 1) = (badAt rs r m || decide (r ≤ (rg rs (ord rs rs.length) m : Int))) := by
  simp [badAt, List.range_succ]
theorem bad_more {rs : List R} {r : Int} {m n : Nat} (h : m ≤ n) (hb : badAt rs r m = true) : badAt rs r n = true := by
  rw [badAt, List.any_eq_true] at hb ⊢
  obtain ⟨k, hk, h2⟩ := hb
  exact ⟨k, List.mem_range.2 (by have := List.mem_range.1 hk; omega), h2⟩
def assigned (rs : List R) : List Int := asg rs (ord rs rs.length) 0 rs.length
def assign (rs : List R) (r : Int) : List Int × Bool := if Rg.valid rs && Sp.isReg r && !badAt rs r rs.length then (assigned rs, true) else ([], false)
theorem tkn_bits {rs : List R} {r : Int} {m : Nat} (hr : r ≤ 12) (h : badAt rs r m = false) (b : Nat) (hb : 12 ≤ b) : (tkn rs (ord rs rs.length) (rg rs (ord rs rs.length)) m m).testBit b = false := by
  cases e : (tkn rs (ord rs rs.length) (rg rs (ord rs rs.length)) m m).testBit b
  · rfl
  · obtain ⟨j, h1, _, h3⟩ := (tb_tkn _ _ _ _ _ _).1 e
    have := bad_no h h1
    omega
/-- The model's set: by the places of the ranges. -/
def tknI (rs : List R) (a : List Int) (z : Nat) : Nat → Nat
  | 0 => 0
  | k + 1 => if decide (0 ≤ a.getD k 0) && meets (nth rs z) (nth rs k) then tknI rs a z k ||| 2 ^ (a.getD k 0).toNat else tknI rs a z k
theorem tb_tknI (rs : List R) (a : List Int) (z k b : Nat) : (tknI rs a z k).testBit b = true ↔ ∃ j, j < k ∧ 0 ≤ a.getD j 0 ∧ meets (nth rs z) (nth rs j) = true ∧ (a.getD j 0).toNat = b := by
  induction k with
  | zero => simp [tknI]
  | succ k ih =>
    rw [tknI]
    split
    next hm =>
      rw [Bool.and_eq_true, decide_eq_true_eq] at hm
      rw [Nat.testBit_or, Sc.tb_pow, Bool.or_eq_true, ih]
      constructor
      · rintro (⟨j, h1, h2⟩ | h)
        · exact ⟨j, by omega, h2⟩
        · exact ⟨k, by omega, hm.1, hm.2, by simpa using h⟩
      · rintro ⟨j, h1, h2, h3, h4⟩
        rcases Nat.lt_or_ge j k with h | h
        · exact .inl ⟨j, h, h2, h3, h4⟩
        · obtain rfl : j = k := by omega
          exact .inr (decide_eq_true h4)
    next hm =>
      rw [ih]
      constructor
      · rintro ⟨j, h1, h2⟩; exact ⟨j, by omega, h2⟩
      · rintro ⟨j, h1, h2, h3, h4⟩
        rcases Nat.lt_or_ge j k with h | h
        · exact ⟨j, h, h2, h3, h4⟩
        · obtain rfl : j = k := by omega
          exact absurd (by rw [Bool.and_eq_true, decide_eq_true_eq]; exact ⟨h2, h3⟩) hm
theorem tkn_tknI (rs : List R) {m : Nat} (hm : m < rs.length) : tknI rs (asg rs (ord rs rs.length) (-1) m) ((ord rs rs.length).getD m 0) rs.length = tkn rs (ord rs rs.length) (rg rs (ord rs rs.length)) m m := by
  refine Nat.eq_of_testBit_eq fun b => ?_
  rw [Bool.eq_iff_iff, tb_tknI, tb_tkn]
  constructor
  · rintro ⟨j, h1, h2, h3, h4⟩
    obtain ⟨a, ha, e⟩ := ord_has (rs := rs) h1
    rcases Nat.lt_or_ge a m with h | h
    · have := asg_at rs (-1) (Nat.le_of_lt hm) h
      rw [e] at this
      rw [this] at h4
      exact ⟨a, h, by rw [e]; exact h3, by omega⟩
    · have := asg_not rs (-1) (m := m) h1 (fun i hi hh => by have := ord_inj (rs := rs) (by omega) ha (hh.trans e.symm); omega)
      rw [this] at h2; omega
  · rintro ⟨j, h1, h2, h3⟩
    have := asg_at rs (-1) (Nat.le_of_lt hm) h1
    exact ⟨(ord rs rs.length).getD j 0, ord_at_lt (by omega), by rw [this]; omega, h2, by rw [this]; omega⟩
/-- The model's choice: the first of those that have the least start, among those that have no register. -/
structure Cho (rs : List R) (m i : Nat) (at_ : Int) : Prop where
  h : (at_ = -1 ∧ ∀ z, z < i → 0 ≤ (asg rs (ord rs rs.length) (-1) m).getD z 0) ∨ ∃ a : Nat, at_ = (a : Int) ∧ a < i ∧ (asg rs (ord rs rs.length) (-1) m).getD a 0 < 0 ∧ ∀ z, z < i → (asg rs (ord rs rs.length) (-1) m).getD z 0 < 0 → z = a ∨ bef rs a z
theorem Cho.start (rs : List R) (m : Nat) : Cho rs m 0 (-1) := ⟨.inl ⟨rfl, fun z hz => absurd hz (by omega)⟩⟩
theorem Cho.fin {rs : List R} {m : Nat} (hm : m < rs.length) {at_ : Int} (h : Cho rs m rs.length at_) : at_ = ((ord rs rs.length).getD m 0 : Nat) := by
  have hn := asg_not rs (-1) (m := m) (z := (ord rs rs.length).getD m 0) (ord_at_lt hm) (fun j hj hh => by have := ord_inj (rs := rs) (by omega) hm hh; omega)
  rcases h.h with ⟨_, h2⟩ | ⟨a, e, ha, hna, hmin⟩
  · have := h2 _ (ord_at_lt (rs := rs) hm)
    rw [hn] at this; omega
  · rw [e]
    congr 1
    obtain ⟨j, hj, ej⟩ := ord_has (rs := rs) ha
    have hjm : m ≤ j := by
      rcases Nat.lt_or_ge j m with h | h
      · have := asg_at rs (-1) (Nat.le_of_lt hm) h
        rw [ej] at this
        rw [this] at hna; omega
      · exact h
    rcases hmin _ (ord_at_lt (rs := rs) hm) (by rw [hn]; omega) with h | h
    · exact h.symm
    · rcases Nat.eq_or_lt_of_le hjm with e | hlt
      · rw [← ej, e]
      · have := ord_bef (rs := rs) hlt hj
        rw [ej] at this
        exact (bef_irr (bef_tr h this)).elim
theorem Cho.pass {rs : List R} {m i : Nat} {at_ : Int} (h : Cho rs m i at_) (hp : 0 ≤ (asg rs (ord rs rs.length) (-1) m).getD i 0) : Cho rs m (i + 1) at_ := by
  refine ⟨?_⟩
  rcases h.h with ⟨h1, h2⟩ | ⟨a, e, ha, hna, hmin⟩
  · refine .inl ⟨h1, fun z hz => ?_⟩
    by_cases hzi : z = i
    · subst hzi; exact hp
    · exact h2 z (by omega)
  · refine .inr ⟨a, e, by omega, hna, fun z hz hzn => ?_⟩
    by_cases hzi : z = i
    · subst hzi; omega
    · exact hmin z (by omega) hzn
theorem Cho.keep {rs : List R} {m i a : Nat} (h : Cho rs m i (a : Int)) (hk : ¬ fr rs i < fr rs a) : Cho rs m (i + 1) (a : Int) := by
  refine ⟨?_⟩
  rcases h.h with ⟨h1, h2⟩ | ⟨a', e, ha, hna, hmin⟩
  · omega
  · obtain rfl : a = a' := by omega
    refine .inr ⟨a, rfl, by omega, hna, fun z hz hzn => ?_⟩
    by_cases hzi : z = i
    · subst hzi; right; unfold bef; omega
    · exact hmin z (by omega) hzn
theorem Cho.take {rs : List R} {m i a : Nat} (h : Cho rs m i (a : Int)) (hp : (asg rs (ord rs rs.length) (-1) m).getD i 0 < 0) (hk : fr rs i < fr rs a) : Cho rs m (i + 1) (i : Int) := by
  refine ⟨?_⟩
  rcases h.h with ⟨h1, h2⟩ | ⟨a', e, ha, hna, hmin⟩
  · omega
  · obtain rfl : a = a' := by omega
    refine .inr ⟨i, rfl, by omega, hp, fun z hz hzn => ?_⟩
    by_cases hzi : z = i
    · exact .inl hzi
    · right
      rcases hmin z (by omega) hzn with rfl | h
      · exact .inl hk
      · exact bef_tr (.inl hk) h
theorem Cho.first {rs : List R} {m i : Nat} (h : Cho rs m i (-1)) (hp : (asg rs (ord rs rs.length) (-1) m).getD i 0 < 0) : Cho rs m (i + 1) (i : Int) := by
  refine ⟨?_⟩
  rcases h.h with ⟨h1, h2⟩ | ⟨a', e, _⟩
  · refine .inr ⟨i, rfl, by omega, hp, fun z hz hzn => ?_⟩
    by_cases hzi : z = i
    · exact .inl hzi
    · have := h2 z (by omega); omega
  · omega
theorem Cho.lt {rs : List R} {m i a : Nat} (h : Cho rs m i (a : Int)) : a < i := by
  rcases h.h with ⟨h1, _⟩ | ⟨a', e, ha, _⟩ <;> omega
end Ar
