/-
  Tasks: which are valid, what they need as sets, orders, what is live, bounds. Plain mathematics.
-/
import Derived.Test.YtfmplneopmbfoaaRgM
import Derived.Test.YtfmplneopmbfoaaRwM
set_option linter.unusedVariables false
namespace Tk
structure T where
  p : Int
  l : Int
  ns : List Int
def zero : T := ⟨0, 0, []⟩
def nth (ts : List T) (k : Nat) : T := ts.getD k zero
/-- The numbers that tasks need, a list each. -/
def nss (ts : List T) : List (List Int) := ts.map T.ns
theorem nss_len (ts : List T) : (nss ts).length = ts.length := by simp [nss]
theorem nss_getD (ts : List T) (k : Nat) : (nss ts).getD k [] = (nth ts k).ns := by
  rw [nss, nth, List.getD_eq_getElem?_getD, List.getD_eq_getElem?_getD, List.getElem?_map]
  cases ts[k]? <;> rfl
theorem nss_set (ts : List T) (k : Nat) (s : T) : nss (ts.set k s) = (nss ts).set k s.ns := by simp [nss, List.map_set]
theorem nth_get {ts : List T} {k : Nat} (h : k < ts.length) : ts[k]? = some (nth ts k) := by
  rw [nth, List.getD_eq_getElem?_getD, List.getElem?_eq_getElem h]; rfl
theorem nth_set (ts : List T) (k j : Nat) (s : T) (h : k < ts.length) : nth (ts.set k s) j = if k = j then s else nth ts j := by
  rw [nth, nth, List.getD_eq_getElem?_getD, List.getD_eq_getElem?_getD, List.getElem?_set]
  by_cases e : k = j
  · subst e; simp [h]
  · simp [e]
/-- Filled from the first on. -/
def fill (ts : List T) (k : Nat) : List T := ts.take k ++ List.replicate (ts.length - k) zero
theorem fill_len (ts : List T) (k : Nat) (h : k ≤ ts.length) : (fill ts k).length = ts.length := by simp [fill]; omega
theorem fill_zero (ts : List T) : fill ts 0 = List.replicate ts.length zero := by simp [fill]
theorem fill_all (ts : List T) : fill ts ts.length = ts := by simp [fill]
theorem fill_set (ts : List T) (k : Nat) (h : k < ts.length) : (fill ts k).set k (nth ts k) = fill ts (k + 1) := by
  unfold fill
  have hl : (ts.take k).length = k := by simp; omega
  have hn : nth ts k = ts[k] := by rw [nth, List.getD_eq_getElem?_getD, List.getElem?_eq_getElem h]; rfl
  rw [List.set_append_right _ _ (by omega), hl, Nat.sub_self, show ts.length - k = (ts.length - (k + 1)) + 1 by omega, List.replicate_succ, List.set_cons_zero, hn, List.take_succ_eq_append_getElem h, List.append_assoc]
  rfl
/-- The place j of rising numbers from 0 to hi is as it must be. -/
def upAt (hi : Int) (ns : List Int) (j : Nat) : Bool := decide (0 ≤ ns.getD j 0 ∧ ns.getD j 0 ≤ hi) && (decide (j = 0) || decide (ns.getD (j - 1) 0 < ns.getD j 0))
def ups (hi : Int) (ns : List Int) : Bool := (List.range ns.length).all (upAt hi ns)
theorem ups_bad {hi : Int} {ns : List Int} {j : Nat} (hj : j < ns.length) (h : upAt hi ns j = false) : ups hi ns = false := by
  rw [ups, List.all_eq_false]
  exact ⟨j, List.mem_range.2 hj, by rw [h]; simp⟩
theorem ups_all {hi : Int} {ns : List Int} (h : ∀ j, j < ns.length → upAt hi ns j = true) : ups hi ns = true := by
  rw [ups, List.all_eq_true]
  exact fun j hj => h j (List.mem_range.1 hj)
theorem ups_at {hi : Int} {ns : List Int} (h : ups hi ns = true) {j : Nat} (hj : j < ns.length) : upAt hi ns j = true := by
  rw [ups, List.all_eq_true] at h
  exact h j (List.mem_range.2 hj)
theorem ups_mem {hi : Int} {ns : List Int} (h : ups hi ns = true) : ∀ x ∈ ns, 0 ≤ x ∧ x ≤ hi := by
  intro x hx
  obtain ⟨j, hj, rfl⟩ := List.getElem_of_mem hx
  have := ups_at h hj
  rw [upAt, Bool.and_eq_true] at this
  have h1 := of_decide_eq_true this.1
  rw [List.getD_eq_getElem?_getD, List.getElem?_eq_getElem hj] at h1
  exact h1
/-- The least number that can come at the place j. -/
def leastAt (ns : List Int) (j : Nat) : Int := if j = 0 then 0 else ns.getD (j - 1) 0 + 1
theorem upAt_least {hi : Int} {ns : List Int} {j : Nat} (h : ∀ i, i < j → upAt hi ns i = true) : upAt hi ns j = decide (leastAt ns j ≤ ns.getD j 0 ∧ ns.getD j 0 ≤ hi) := by
  unfold upAt leastAt
  by_cases e : j = 0
  · subst e; simp
  · have := h (j - 1) (by omega)
    rw [upAt, Bool.and_eq_true] at this
    have h1 := of_decide_eq_true this.1
    rw [if_neg e, decide_eq_false e, Bool.false_or]
    generalize ns.getD (j - 1) 0 = x at h1
    generalize ns.getD j 0 = y
    rw [Bool.eq_iff_iff, Bool.and_eq_true, decide_eq_true_eq, decide_eq_true_eq, decide_eq_true_eq]
    omega
def tok (i : Nat) (t : T) : Bool := decide (0 ≤ t.p ∧ t.p ≤ 2) && decide (1 ≤ t.l ∧ t.l ≤ 6) && ups ((i : Int) - 1) t.ns
def valid (ts : List T) : Bool := decide (ts.length ≤ 8) && (List.range ts.length).all fun i => tok i (nth ts i)
theorem valid_long {ts : List T} (h : 8 < ts.length) : valid ts = false := by
  rw [valid, decide_eq_false (by omega)]; rfl
theorem valid_bad {ts : List T} {k : Nat} (hk : k < ts.length) (h : tok k (nth ts k) = false) : valid ts = false := by
  have : ((List.range ts.length).all fun i => tok i (nth ts i)) = false := by
    rw [List.all_eq_false]
    exact ⟨k, List.mem_range.2 hk, by rw [h]; simp⟩
  rw [valid, this, Bool.and_false]
theorem valid_all {ts : List T} (hl : ts.length ≤ 8) (h : ∀ j, j < ts.length → tok j (nth ts j) = true) : valid ts = true := by
  have : ((List.range ts.length).all fun i => tok i (nth ts i)) = true := by
    rw [List.all_eq_true]
    exact fun j hj => h j (List.mem_range.1 hj)
  rw [valid, this, decide_eq_true hl]; rfl
theorem len_of_valid {ts : List T} (h : valid ts = true) : ts.length ≤ 8 := by
  rw [valid, Bool.and_eq_true] at h; exact of_decide_eq_true h.1
theorem tok_of_valid {ts : List T} (h : valid ts = true) {k : Nat} (hk : k < ts.length) : tok k (nth ts k) = true := by
  rw [valid, Bool.and_eq_true, List.all_eq_true] at h
  exact h.2 k (List.mem_range.2 hk)
theorem tok_parts {i : Nat} {t : T} (h : tok i t = true) : (0 ≤ t.p ∧ t.p ≤ 2) ∧ (1 ≤ t.l ∧ t.l ≤ 6) ∧ ∀ x ∈ t.ns, 0 ≤ x ∧ x < i := by
  rw [tok, Bool.and_eq_true, Bool.and_eq_true] at h
  exact ⟨of_decide_eq_true h.1.1, of_decide_eq_true h.1.2, fun x hx => by have := ups_mem h.2 x hx; omega⟩
/-- What each task needs, as a set. -/
def need (ts : List T) (j : Nat) : Nat := Sc.doneOf (nth ts j).ns
def needs (ts : List T) : List Nat := (List.range ts.length).map (need ts)
theorem needs_len (ts : List T) : (needs ts).length = ts.length := by simp [needs]
theorem needs_at {ts : List T} {j : Nat} (h : j < ts.length) : (needs ts).getD j 0 = need ts j := by
  rw [needs, List.getD_eq_getElem?_getD, List.getElem?_map, List.getElem?_range h]; rfl
theorem need_lt {ts : List T} (h : valid ts = true) {j : Nat} (hj : j < ts.length) : need ts j < 4294967296 := by
  have h8 := len_of_valid h
  exact Sc.doneOf_lt fun x hx => by have := (tok_parts (tok_of_valid h hj)).2.2 x hx; omega
/-- Orders over sets of needs. -/
def nextU (us : List Nat) (s j : Nat) : Bool := !s.testBit j && Sc.diff (us.getD j 0) s == 0
def okU (us : List Nat) (zs : List Int) (k : Nat) : Bool := decide (0 ≤ zs.getD k 0 ∧ zs.getD k 0 < us.length) && nextU us (Sc.doneOf (zs.take k)) (zs.getD k 0).toNat
def ordU (us : List Nat) (zs : List Int) : Bool := decide (zs.length = us.length) && (List.range zs.length).all (okU us zs)
theorem ordU_len {us : List Nat} {zs : List Int} (h : zs.length ≠ us.length) : ordU us zs = false := by rw [ordU, decide_eq_false h]; rfl
theorem ordU_bad {us : List Nat} {zs : List Int} {k : Nat} (hk : k < zs.length) (h : okU us zs k = false) : ordU us zs = false := by
  have : (List.range zs.length).all (okU us zs) = false := by
    rw [List.all_eq_false]; exact ⟨k, List.mem_range.2 hk, by rw [h]; simp⟩
  rw [ordU, this, Bool.and_false]
theorem ordU_all {us : List Nat} {zs : List Int} (hl : zs.length = us.length) (h : ∀ k, k < zs.length → okU us zs k = true) : ordU us zs = true := by
  have : (List.range zs.length).all (okU us zs) = true := by
    rw [List.all_eq_true]; exact fun k hk => h k (List.mem_range.1 hk)
  rw [ordU, this, decide_eq_true hl]; rfl
theorem ordU_at {us : List Nat} {zs : List Int} (h : ordU us zs = true) {k : Nat} (hk : k < zs.length) : okU us zs k = true := by
  rw [ordU, Bool.and_eq_true, List.all_eq_true] at h
  exact h.2 k (List.mem_range.2 hk)
theorem ordU_length {us : List Nat} {zs : List Int} (h : ordU us zs = true) : zs.length = us.length := by
  rw [ordU, Bool.and_eq_true] at h; exact of_decide_eq_true h.1
theorem okU_range {us : List Nat} {zs : List Int} {k : Nat} (h : okU us zs k = true) : 0 ≤ zs.getD k 0 ∧ zs.getD k 0 < us.length := by
  rw [okU, Bool.and_eq_true] at h; exact of_decide_eq_true h.1
/-- Orders as the model sees them: each index once, behind those that it needs. -/
def okL (ts : List T) (zs : List Int) (k : Nat) : Bool :=
  decide (0 ≤ zs.getD k 0 ∧ zs.getD k 0 < ts.length) && (!(zs.take k).contains (zs.getD k 0) && (nth ts (zs.getD k 0).toNat).ns.all fun x => (zs.take k).contains x)
theorem diff_doneOf {ns pre : List Int} (hn : ∀ x ∈ ns, 0 ≤ x) (hp : ∀ x ∈ pre, 0 ≤ x) : (Sc.diff (Sc.doneOf ns) (Sc.doneOf pre) == 0) = ns.all fun x => pre.contains x := by
  rw [Bool.eq_iff_iff, beq_iff_eq, Sc.eq_zero_iff]
  simp only [Sc.tb_diff, Sc.tb_doneOf hn, Sc.tb_doneOf hp, List.all_eq_true]
  constructor
  · intro h x hx
    have h0 := hn x hx
    have := h x.toNat
    rw [show ((x.toNat : Nat) : Int) = x by omega, List.contains_iff_mem.2 hx] at this
    simpa using this
  · intro h k
    cases hc : ns.contains (k : Int)
    · rfl
    · rw [h _ (List.contains_iff_mem.1 hc)]; rfl
theorem okU_needs {ts : List T} (hv : valid ts = true) {zs : List Int} {k : Nat} (hp : ∀ x ∈ zs.take k, 0 ≤ x) : okU (needs ts) zs k = okL ts zs k := by
  unfold okU okL
  rw [needs_len]
  by_cases h : 0 ≤ zs.getD k 0 ∧ zs.getD k 0 < (ts.length : Int)
  · rw [decide_eq_true h, Bool.true_and, Bool.true_and, nextU, Sc.tb_doneOf hp, needs_at (by omega), need]
    rw [diff_doneOf (fun x hx => ((tok_parts (tok_of_valid hv (k := (zs.getD k 0).toNat) (by omega))).2.2 x hx).1) hp]
    rw [show (((zs.getD k 0).toNat : Nat) : Int) = zs.getD k 0 by omega]
  · rw [decide_eq_false h]; rfl
theorem getD_take {zs : List Int} {i k : Nat} (h : i < k) : (zs.take k).getD i 0 = zs.getD i 0 := by
  rw [List.getD_eq_getElem?_getD, List.getD_eq_getElem?_getD, List.getElem?_take, if_pos h]
theorem mem_take {o : List Int} {k : Nat} {x : Int} (h : x ∈ o.take k) : ∃ i, i < k ∧ i < o.length ∧ x = o.getD i 0 := by
  obtain ⟨i, hi, he⟩ := List.getElem_of_mem h
  rw [List.length_take] at hi
  refine ⟨i, by omega, by omega, ?_⟩
  rw [List.getElem_take] at he
  rw [List.getD_eq_getElem?_getD, List.getElem?_eq_getElem (by omega)]; exact he.symm
theorem take_snoc {o : List Int} {k : Nat} (h : k < o.length) : o.take (k + 1) = o.take k ++ [o.getD k 0] := by
  rw [List.take_succ_eq_append_getElem h, List.getD_eq_getElem?_getD, List.getElem?_eq_getElem h]; rfl
/-- A list is an order of tasks. -/
def isOrder (ts : List T) (zs : List Int) : Bool := valid ts && ordU (needs ts) zs
/-- The bound of a port. -/
def portAt (ts : List T) (p : Int) : Nat → Int × Int
  | 0 => (0, 6)
  | i + 1 => if (nth ts i).p = p then ((portAt ts p i).1 + 1, min (portAt ts p i).2 (nth ts i).l) else portAt ts p i
def boundOf (ts : List T) (p : Int) : Int := if (portAt ts p ts.length).1 = 0 then 0 else (portAt ts p ts.length).1 + (portAt ts p ts.length).2 - 1
def bounds (ts : List T) : Nat → Int
  | 0 => 0
  | q + 1 => max (bounds ts q) (boundOf ts q)
def portBound (ts : List T) : Int × Bool := if valid ts then (bounds ts 3, true) else (0, false)
theorem portAt_bd {ts : List T} (hv : valid ts = true) (p : Int) (i : Nat) (h : i ≤ ts.length) : 0 ≤ (portAt ts p i).1 ∧ (portAt ts p i).1 ≤ i ∧ 1 ≤ (portAt ts p i).2 ∧ (portAt ts p i).2 ≤ 6 := by
  induction i with
  | zero => simp [portAt]
  | succ i ih =>
    have ih := ih (by omega)
    have := (tok_parts (tok_of_valid hv (k := i) (by omega))).2.1
    rw [portAt]
    split
    · simp only; omega
    · omega
theorem boundOf_bd {ts : List T} (hv : valid ts = true) (p : Int) : 0 ≤ boundOf ts p ∧ boundOf ts p ≤ 14 := by
  have := portAt_bd hv p ts.length (Nat.le_refl _)
  have := len_of_valid hv
  unfold boundOf
  split <;> omega
end Tk
