/-
  The order with the least pressure: by a table over the sets of tasks that are done, and by a search; both give the same. Plain mathematics.
-/
import Derived.Test.YtfmplneopmbfoaaPrM
set_option linter.unusedVariables false
namespace Lp
open Tk
/-- The least of some values, and of r. -/
def minO (f : Nat → Nat) (p : Nat → Bool) (r : Nat) : Nat → Nat
  | 0 => r
  | j + 1 => if p j then min (minO f p r j) (f j) else minO f p r j
theorem minO_le (f : Nat → Nat) (p : Nat → Bool) (r n : Nat) : minO f p r n ≤ r := by
  induction n with
  | zero => exact Nat.le_refl _
  | succ n ih => rw [minO]; split <;> omega
theorem minO_le_at {f : Nat → Nat} {p : Nat → Bool} {r n j : Nat} (hj : j < n) (hp : p j = true) : minO f p r n ≤ f j := by
  induction n with
  | zero => omega
  | succ n ih =>
    rw [minO]
    by_cases e : j = n
    · subst e; rw [if_pos hp]; omega
    · have := ih (by omega)
      split <;> omega
theorem minO_get (f : Nat → Nat) (p : Nat → Bool) (r n : Nat) : minO f p r n = r ∨ ∃ j, j < n ∧ p j = true ∧ f j = minO f p r n := by
  induction n with
  | zero => exact .inl rfl
  | succ n ih =>
    rw [minO]
    split
    next h =>
      by_cases hm : minO f p r n ≤ f n
      · rw [Nat.min_eq_left hm]
        rcases ih with ih | ⟨j, h1, h2, h3⟩
        · exact .inl ih
        · exact .inr ⟨j, by omega, h2, h3⟩
      · rw [Nat.min_eq_right (by omega)]
        exact .inr ⟨n, by omega, h, rfl⟩
    next h =>
      rcases ih with ih | ⟨j, h1, h2, h3⟩
      · exact .inl ih
      · exact .inr ⟨j, by omega, h2, h3⟩
theorem minO_congr {f g : Nat → Nat} {p : Nat → Bool} {r n : Nat} (h : ∀ j, j < n → p j = true → f j = g j) : minO f p r n = minO g p r n := by
  induction n with
  | zero => rfl
  | succ n ih =>
    rw [minO, minO, ih fun j hj => h j (by omega)]
    split
    next hp => rw [h n (by omega) hp]
    next => rfl
/-- What a set's place gets, for the table as it is. -/
def val (us : List Nat) (L : List Nat) (s : Nat) : Nat := max (liveU us s) (minO (fun j => L.getD (s ||| 2 ^ j) 0) (nextU us s) 8 us.length)
def put (us : List Nat) (L : List Nat) (s : Nat) : List Nat := if s = 2 ^ us.length - 1 then L else L.set s (val us L s)
/-- The table behind some sets, in whatever order. -/
def tabP (us : List Nat) (l : List Nat) : List Nat := l.foldl (put us) (List.replicate (2 ^ us.length) 0)
theorem tabP_snoc (us : List Nat) (l : List Nat) (s : Nat) : tabP us (l ++ [s]) = put us (tabP us l) s := by simp [tabP]
theorem put_len (us : List Nat) (L : List Nat) (s : Nat) : (put us L s).length = L.length := by unfold put; split <;> simp
theorem tabP_len (us : List Nat) (l : List Nat) : (tabP us l).length = 2 ^ us.length := by
  suffices h : ∀ (l : List Nat) (z : List Nat), (l.foldl (put us) z).length = z.length by rw [tabP, h]; simp
  intro l
  induction l with
  | nil => intro z; rfl
  | cons i l ih => intro z; rw [List.foldl_cons, ih, put_len]
/-- From the greatest one down, k of them. -/
def dwn (N k : Nat) : List Nat := (List.range k).map fun j => N - 1 - j
theorem dwn_succ (N k : Nat) : dwn N (k + 1) = dwn N k ++ [N - 1 - k] := by simp [dwn, List.range_succ]
theorem dwn_len (N k : Nat) : (dwn N k).length = k := by simp [dwn]
/-- The whole table. -/
def tabF (us : List Nat) : List Nat := tabP us (dwn (2 ^ us.length) (2 ^ us.length))
theorem or_gt {s j : Nat} (h : s.testBit j = false) : s < s ||| 2 ^ j := by
  have h1 : s ≤ s ||| 2 ^ j := Nat.left_le_or
  have h2 : s ≠ s ||| 2 ^ j := fun e => by rw [(Sc.or_pow_eq s j).1 e.symm] at h; cases h
  omega
theorem or_lt {s j n : Nat} (h : s < 2 ^ n) (hj : j < n) : s ||| 2 ^ j < 2 ^ n := Nat.or_lt_two_pow h (Nat.pow_lt_pow_right (by decide) hj)
theorem next_bit {us : List Nat} {s j : Nat} (h : nextU us s j = true) : s.testBit j = false := by
  rw [nextU, Bool.and_eq_true] at h; simpa using h.1
theorem getD_set (L : List Nat) (s v x : Nat) (hx : x < L.length) : (L.set s v).getD x 0 = if s = x then v else L.getD x 0 := by
  rw [List.getD_eq_getElem?_getD, List.getElem?_set]
  by_cases e : s = x
  · rw [if_pos e, if_pos e, if_pos (by omega)]; rfl
  · rw [if_neg e, if_neg e, ← List.getD_eq_getElem?_getD]
/-- What is done of the table stays. -/
theorem tab_stay (us : List Nat) {k : Nat} (hk : k ≤ 2 ^ us.length) : ∀ m, k ≤ m → m ≤ 2 ^ us.length → ∀ x, 2 ^ us.length - k ≤ x → x < 2 ^ us.length → (tabP us (dwn (2 ^ us.length) m)).getD x 0 = (tabP us (dwn (2 ^ us.length) k)).getD x 0 := by
  intro m
  induction m with
  | zero => intro h1 _ x _ _; obtain rfl : k = 0 := by omega
            rfl
  | succ m ih =>
    intro h1 h2 x h3 h4
    by_cases e : k = m + 1
    · subst e; rfl
    · rw [dwn_succ, tabP_snoc, put]
      have := ih (by omega) (by omega) x h3 h4
      split
      · exact this
      · rw [getD_set _ _ _ _ (by rw [tabP_len]; exact h4), if_neg (by omega)]; exact this
theorem tab_at (us : List Nat) {s : Nat} (hs : s < 2 ^ us.length) : (tabF us).getD s 0 = if s = 2 ^ us.length - 1 then 0 else val us (tabF us) s := by
  obtain ⟨k, hk⟩ : ∃ k, s = 2 ^ us.length - 1 - k ∧ k < 2 ^ us.length := ⟨2 ^ us.length - 1 - s, by omega, by omega⟩
  have h1 := tab_stay us (k := k + 1) (by omega) (2 ^ us.length) (by omega) (Nat.le_refl _) s (by omega) hs
  unfold tabF
  rw [h1, dwn_succ, tabP_snoc, put, ← hk.1]
  by_cases e : s = 2 ^ us.length - 1
  · rw [if_pos e, if_pos e]
    obtain rfl : k = 0 := by omega
    rw [show dwn (2 ^ us.length) 0 = [] from rfl, tabP, List.foldl_nil, List.getD_eq_getElem?_getD, List.getElem?_replicate]
    split <;> rfl
  · rw [if_neg e, if_neg e, getD_set _ _ _ _ (by rw [tabP_len]; exact hs), if_pos rfl]
    unfold val
    congr 1
    refine minO_congr fun j hj hp => ?_
    have hb := or_gt (next_bit hp)
    have hl := or_lt hs hj
    exact (tab_stay us (k := k) (by omega) (2 ^ us.length) (by omega) (Nat.le_refl _) _ (by omega) hl).symm
def F (us : List Nat) (s : Nat) : Nat := (tabF us).getD s 0
def mn (us : List Nat) (s : Nat) : Nat := minO (fun j => F us (s ||| 2 ^ j)) (nextU us s) 8 us.length
theorem F_eq (us : List Nat) {s : Nat} (hs : s < 2 ^ us.length) : F us s = if s = 2 ^ us.length - 1 then 0 else max (liveU us s) (mn us s) := tab_at us hs
theorem live_all (us : List Nat) : liveU us (2 ^ us.length - 1) = 0 := by
  unfold liveU
  have : neededU us (2 ^ us.length - 1) us.length = 0 := by
    rw [Sc.eq_zero_iff]
    intro k
    rw [tb_neededU, List.any_eq_false]
    intro j hj
    rw [Nat.testBit_two_pow_sub_one, decide_eq_true (List.mem_range.1 hj)]; simp
  rw [this, Nat.zero_and]; decide
theorem F_le_iff (us : List Nat) {s m : Nat} (hs : s < 2 ^ us.length) : F us s ≤ m ↔ liveU us s ≤ m ∧ (s = 2 ^ us.length - 1 ∨ mn us s ≤ m) := by
  rw [F_eq us hs]
  by_cases e : s = 2 ^ us.length - 1
  · rw [if_pos e, e, live_all]; simp
  · rw [if_neg e]
    constructor
    · intro h; exact ⟨by omega, .inr (by omega)⟩
    · rintro ⟨h1, h2 | h2⟩
      · exact absurd h2 e
      · omega
theorem live_le8 (us : List Nat) (h8 : us.length ≤ 8) {s : Nat} (hs : s < 2 ^ us.length) : liveU us s ≤ 8 := by
  have h1 : neededU us s us.length &&& s < 2 ^ us.length := Nat.lt_of_le_of_lt Nat.and_le_right hs
  have := Rg.pop_le (by omega) h1
  unfold liveU; omega
theorem F_le8 (us : List Nat) (h8 : us.length ≤ 8) {s : Nat} (hs : s < 2 ^ us.length) : F us s ≤ 8 := by
  rw [F_eq us hs]
  have := live_le8 us h8 hs
  have := minO_le (fun j => F us (s ||| 2 ^ j)) (nextU us s) 8 us.length
  unfold mn
  split <;> omega
/-- Needs point back. -/
def Bk (us : List Nat) : Prop := ∀ j, j < us.length → us.getD j 0 < 2 ^ j
theorem next_some {us : List Nat} (hb : Bk us) {s : Nat} (hs : s < 2 ^ us.length) (hne : s ≠ 2 ^ us.length - 1) : ∃ j, j < us.length ∧ nextU us s j = true := by
  have hex : ∃ j, j < us.length ∧ s.testBit j = false := by
    apply Classical.byContradiction
    intro hno
    apply hne
    refine Nat.eq_of_testBit_eq fun k => ?_
    rw [Nat.testBit_two_pow_sub_one]
    by_cases hk : k < us.length
    · rw [decide_eq_true hk]
      cases e : s.testBit k
      · exact absurd ⟨k, hk, e⟩ hno
      · rfl
    · rw [decide_eq_false hk]
      exact Nat.testBit_lt_two_pow (Nat.lt_of_lt_of_le hs (Nat.pow_le_pow_right (by decide) (by omega)))
  obtain ⟨j0, h0, h1⟩ := hex
  have key : ∀ j, j < us.length → s.testBit j = false → ∃ i, i < us.length ∧ nextU us s i = true := by
    intro j
    induction j using Nat.strongRecOn with
    | _ j ih =>
      intro hj hbj
      by_cases hall : ∀ i, i < j → s.testBit i = true
      · refine ⟨j, hj, ?_⟩
        rw [nextU, hbj, Bool.not_false, Bool.true_and, beq_iff_eq, Sc.eq_zero_iff]
        intro k
        rw [Sc.tb_diff]
        by_cases hk : k < j
        · rw [hall k hk]; simp
        · rw [Nat.testBit_lt_two_pow (Nat.lt_of_lt_of_le (hb j hj) (Nat.pow_le_pow_right (by decide) (by omega)))]; rfl
      · obtain ⟨i, hi⟩ : ∃ i, ¬ (i < j → s.testBit i = true) := Classical.not_forall.1 hall
        have hij : i < j := Classical.byContradiction fun h => hi fun h2 => absurd h2 h
        have hib : s.testBit i = false := by
          cases e : s.testBit i
          · rfl
          · exact absurd (fun _ => e) hi
        exact ih i hij (by omega) hib
  exact key j0 h0 h1
/-- The first that can come next and leaves a pressure that is no greater. -/
def good (us : List Nat) (m s j : Nat) : Bool := nextU us s j && decide (F us (s ||| 2 ^ j) ≤ m)
theorem good_some {us : List Nat} (hb : Bk us) (h8 : us.length ≤ 8) {s m : Nat} (hs : s < 2 ^ us.length) (hne : s ≠ 2 ^ us.length - 1) : (∃ j, j < us.length ∧ good us m s j = true) ↔ mn us s ≤ m := by
  constructor
  · rintro ⟨j, hj, hg⟩
    rw [good, Bool.and_eq_true] at hg
    have := minO_le_at (f := fun j => F us (s ||| 2 ^ j)) (r := 8) hj hg.1
    have h2 := of_decide_eq_true hg.2
    unfold mn; omega
  · intro h
    rcases minO_get (fun j => F us (s ||| 2 ^ j)) (nextU us s) 8 us.length with h1 | ⟨j, h1, h2, h3⟩
    · obtain ⟨j, hj, hn⟩ := next_some hb hs hne
      have := F_le8 us h8 (or_lt hs hj)
      refine ⟨j, hj, ?_⟩
      rw [good, hn, Bool.true_and]
      unfold mn at h
      exact decide_eq_true (by omega)
    · refine ⟨j, h1, ?_⟩
      rw [good, h2, Bool.true_and]
      unfold mn at h
      have h4 : F us (s ||| 2 ^ j) = minO (fun j => F us (s ||| 2 ^ j)) (nextU us s) 8 us.length := h3
      exact decide_eq_true (by omega)
/-- The least number below n of which p holds; n, if there is none. -/
def fst (p : Nat → Bool) (n : Nat) : Nat := ((List.range n).find? p).getD n
theorem fst_spec {p : Nat → Bool} {n j : Nat} (hj : j < n) (hp : p j = true) : fst p n < n ∧ p (fst p n) = true ∧ ∀ i, i < fst p n → p i = false := by
  unfold fst
  cases e : (List.range n).find? p with
  | none =>
    rw [List.find?_eq_none] at e
    exact absurd hp (e j (List.mem_range.2 hj))
  | some x =>
    rw [List.find?_range_eq_some] at e
    obtain ⟨e1, e2, e3⟩ := e
    exact ⟨List.mem_range.1 e2, e1, fun i hi => by have := e3 i hi; simpa using this⟩
/-- The order that is found from a set on. -/
def grd (us : List Nat) (m : Nat) : Nat → Nat → List Int
  | 0, _ => []
  | k + 1, s => (fst (good us m s) us.length : Int) :: grd us m k (s ||| 2 ^ fst (good us m s) us.length)
/-- The search: continues an order by the first that leads to an end. -/
def srch (ts : List T) (m : Nat) : Nat → List Int → Option (List Int)
  | 0, o => some o
  | k + 1, o => (List.range ts.length).findSome? fun (i : Nat) => if (!o.contains (i : Int) && (nth ts i).ns.all fun x => o.contains x) && decide (liveL ts (o ++ [(i : Int)]) ≤ m) then srch ts m k (o ++ [(i : Int)]) else none
/-- A list of tasks without repeats. -/
structure Ok (ts : List T) (o : List Int) : Prop where
  nd : o.Nodup
  rg : ∀ x ∈ o, 0 ≤ x ∧ x < ts.length
theorem Ok.snoc {ts : List T} {o : List Int} (h : Ok ts o) {i : Nat} (hi : i < ts.length) (hn : o.contains (i : Int) = false) : Ok ts (o ++ [(i : Int)]) := by
  refine ⟨?_, fun x hx => ?_⟩
  · rw [List.nodup_append]
    refine ⟨h.nd, by simp, fun a ha b hb e => ?_⟩
    rw [List.mem_singleton] at hb
    subst hb; subst e
    rw [List.contains_iff_mem.2 ha] at hn; cases hn
  · rcases List.mem_append.1 hx with hx | hx
    · exact h.rg x hx
    · rw [List.mem_singleton] at hx; subst hx; omega
theorem Ok.done_lt {ts : List T} {o : List Int} (h : Ok ts o) : Sc.doneOf o < 2 ^ ts.length := by
  refine Nat.lt_pow_two_of_testBit _ fun i hi => ?_
  rw [Sc.tb_doneOf fun x hx => (h.rg x hx).1]
  cases e : o.contains (i : Int)
  · rfl
  · have := h.rg _ (List.contains_iff_mem.1 e); omega
theorem bk_needs {ts : List T} (hv : valid ts = true) : Bk (needs ts) := by
  intro j hj
  rw [needs_len] at hj
  rw [needs_at hj, need]
  refine Nat.lt_pow_two_of_testBit _ fun i hi => ?_
  have ht := (tok_parts (tok_of_valid hv hj)).2.2
  rw [Sc.tb_doneOf fun x hx => (ht x hx).1]
  cases e : (nth ts j).ns.contains (i : Int)
  · rfl
  · have := ht _ (List.contains_iff_mem.1 e); omega
theorem next_eq {ts : List T} (hv : valid ts = true) {o : List Int} (h : Ok ts o) {i : Nat} (hi : i < ts.length) : nextU (needs ts) (Sc.doneOf o) i = (!o.contains (i : Int) && (nth ts i).ns.all fun x => o.contains x) := by
  rw [nextU, Sc.tb_doneOf fun x hx => (h.rg x hx).1, needs_at hi, need]
  rw [diff_doneOf (fun x hx => ((tok_parts (tok_of_valid hv hi)).2.2 x hx).1) fun x hx => (h.rg x hx).1]
theorem done_snoc (o : List Int) (i : Nat) : Sc.doneOf (o ++ [(i : Int)]) = Sc.doneOf o ||| 2 ^ i := by rw [Sc.doneOf_snoc, Sc.bt, Int.toNat_natCast]
theorem len_done {ts : List T} {o : List Int} (h : Ok ts o) (hl : o.length < ts.length) : Sc.doneOf o ≠ 2 ^ ts.length - 1 := by
  intro e
  have hall : ∀ i, i < ts.length → o.contains (i : Int) = true := fun i hi => by
    rw [← Sc.tb_doneOf fun x hx => (h.rg x hx).1, e, Nat.testBit_two_pow_sub_one, decide_eq_true hi]
  have h1 := Rg.cnt_list (fun _ => true) ts.length o h.nd h.rg
  rw [Rg.cnt_congr (q := fun _ => true) fun k hk => by rw [hall k hk]; rfl] at h1
  have h2 : ∀ n, Rg.cnt (fun _ => true) n = n := by
    intro n
    induction n with
    | zero => rfl
    | succ n ih => rw [Rg.cnt, ih]; rfl
  rw [h2, h2] at h1
  omega
theorem findSome_first {α : Type} {f : Nat → Option α} {n i : Nat} {y : α} (hi : i < n) (h : f i = some y) (hl : ∀ j, j < i → f j = none) : (List.range n).findSome? f = some y := by
  obtain ⟨d, rfl⟩ : ∃ d, n = i + 1 + d := ⟨n - (i + 1), by omega⟩
  rw [List.range_add, List.findSome?_append, List.range_succ, List.findSome?_append]
  have e : (List.range i).findSome? f = none := by
    rw [List.findSome?_eq_none_iff]
    exact fun j hj => hl j (List.mem_range.1 hj)
  rw [e]
  simp [h]
theorem srch_eq {ts : List T} (hv : valid ts = true) (m : Nat) : ∀ k o, Ok ts o → o.length + k = ts.length → srch ts m k o = if k = 0 ∨ mn (needs ts) (Sc.doneOf o) ≤ m then some (o ++ grd (needs ts) m k (Sc.doneOf o)) else none := by
  have h8 := len_of_valid hv
  have hbk := bk_needs hv
  have hl := needs_len ts
  have h8' : (needs ts).length ≤ 8 := by omega
  intro k
  induction k with
  | zero => intro o h hk; rw [srch, if_pos (.inl rfl), grd, List.append_nil]
  | succ k ih =>
    intro o h hk
    have hs := h.done_lt
    have hne := len_done h (by omega)
    rw [← hl] at hs hne
    rw [srch]
    have step : ∀ i, i < ts.length → (if (!o.contains (i : Int) && (nth ts i).ns.all fun x => o.contains x) && decide (liveL ts (o ++ [(i : Int)]) ≤ m) then srch ts m k (o ++ [(i : Int)]) else none) = if good (needs ts) m (Sc.doneOf o) i then some (o ++ (i : Int) :: grd (needs ts) m k (Sc.doneOf o ||| 2 ^ i)) else none := by
      intro i hi
      rw [← next_eq hv h hi, good]
      cases hn : nextU (needs ts) (Sc.doneOf o) i
      · rfl
      · rw [Bool.true_and, Bool.true_and]
        have hnb := next_bit hn
        rw [Sc.tb_doneOf fun x hx => (h.rg x hx).1] at hnb
        have h2 := h.snoc hi hnb
        have hs2 := h2.done_lt
        rw [← hl] at hs2
        have hk2 : (o ++ [(i : Int)]).length + k = ts.length := by rw [List.length_append, List.length_singleton]; omega
        have hlive := live_eq hv h2.nd h2.rg
        have hF := F_le_iff (needs ts) (m := m) hs2
        rw [hlive] at hF
        rw [done_snoc] at hF
        have ih2 := ih _ h2 hk2
        rw [done_snoc] at ih2
        have hk0 : Sc.doneOf o ||| 2 ^ i = 2 ^ (needs ts).length - 1 ↔ k = 0 := by
          constructor
          · intro e
            rcases Nat.eq_zero_or_pos k with h0 | h0
            · exact h0
            · exact absurd (by rw [done_snoc, e, hl]) (len_done h2 (by omega))
          · rintro rfl
            refine Classical.byContradiction fun e => ?_
            rw [← done_snoc] at e
            have hex := next_some hbk hs2 (by rw [done_snoc] at e; rw [done_snoc]; exact e)
            obtain ⟨j, hj, hjn⟩ := hex
            rw [hl] at hj
            have hjb := next_bit hjn
            rw [Sc.tb_doneOf fun x hx => (h2.rg x hx).1] at hjb
            have h3 := h2.snoc hj hjb
            have := Rg.cnt_list (fun _ => true) ts.length _ h3.nd h3.rg
            have hc := Rg.cnt_le (fun k => true && (o ++ [(i : Int)] ++ [(j : Int)]).contains (k : Int)) ts.length
            have h4 : ∀ n, Rg.cnt (fun _ => true) n = n := by
              intro n
              induction n with
              | zero => rfl
              | succ n ih => rw [Rg.cnt, ih]; rfl
            rw [h4] at this
            simp only [List.length_append, List.length_singleton] at this hk2
            omega
        rw [hk0] at hF
        rw [ih2]
        by_cases hlm : liveL ts (o ++ [(i : Int)]) ≤ m
        · rw [decide_eq_true hlm, if_pos rfl]
          by_cases hc : k = 0 ∨ mn (needs ts) (Sc.doneOf o ||| 2 ^ i) ≤ m
          · rw [if_pos hc, decide_eq_true (hF.2 ⟨hlm, hc⟩), if_pos rfl, List.append_assoc]; rfl
          · rw [if_neg hc, decide_eq_false (fun hh => hc (hF.1 hh).2)]; rfl
        · rw [decide_eq_false hlm, decide_eq_false (fun hh => hlm (hF.1 hh).1)]; rfl
    by_cases hm : mn (needs ts) (Sc.doneOf o) ≤ m
    · rw [if_pos (.inr hm)]
      obtain ⟨j, hj, hg⟩ := (good_some hbk h8' hs hne).2 hm
      obtain ⟨f1, f2, f3⟩ := fst_spec (p := good (needs ts) m (Sc.doneOf o)) hj hg
      have f1' : fst (good (needs ts) m (Sc.doneOf o)) (needs ts).length < ts.length := by omega
      refine findSome_first f1' ?_ fun i hi => ?_
      · rw [step _ f1', f2, if_pos rfl]; rfl
      · rw [step i (by omega), f3 i hi]; rfl
    · rw [if_neg (by omega), List.findSome?_eq_none_iff]
      intro i hi
      rw [step i (List.mem_range.1 hi)]
      cases e : good (needs ts) m (Sc.doneOf o) i
      · rfl
      · exact absurd ((good_some hbk h8' hs hne).1 ⟨i, by have := List.mem_range.1 hi; omega, e⟩) hm
def least (ts : List T) : Nat := F (needs ts) 0
def order (ts : List T) : List Int := grd (needs ts) (least ts) ts.length 0
theorem srch_least {ts : List T} (hv : valid ts = true) (m : Nat) : srch ts m ts.length [] = if least ts ≤ m then some (grd (needs ts) m ts.length 0) else none := by
  have h0 : Ok ts [] := ⟨by simp, fun x hx => by cases hx⟩
  rw [srch_eq hv m ts.length [] h0 (by simp)]
  have hl := needs_len ts
  have h1 := F_le_iff (needs ts) (s := 0) (m := m) (Nat.two_pow_pos _)
  have hz : liveU (needs ts) 0 = 0 := by unfold liveU; rw [Nat.and_zero]; decide
  rw [hz] at h1
  have hiff : (ts.length = 0 ∨ mn (needs ts) (Sc.doneOf []) ≤ m) ↔ least ts ≤ m := by
    show _ ↔ F (needs ts) 0 ≤ m
    rw [h1]
    constructor
    · rintro (h | h)
      · exact ⟨Nat.zero_le _, .inl (by rw [hl, h])⟩
      · exact ⟨Nat.zero_le _, .inr h⟩
    · rintro ⟨_, h | h⟩
      · refine .inl ?_
        rw [hl] at h
        rcases Nat.eq_zero_or_pos ts.length with h2 | h2
        · exact h2
        · have : 2 ^ 1 ≤ 2 ^ ts.length := Nat.pow_le_pow_right (by decide) h2
          omega
      · exact .inr h
  simp only [hiff, List.nil_append]
  rfl
end Lp
