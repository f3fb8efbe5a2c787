/-
  Plain mathematics of squares whose lanes are exchanged at a distance: which lanes are the lower ones of their pairs, what the square is behind some of the exchanges. No program, no memory.
-/
import Derived.Test.YtigodbilfjppbaaTrM
import Derived.Test.YtigodbilfjppbaaShM
namespace Ln
set_option linter.unusedVariables false
/-- The lower lanes of the pairs at the distance f. -/
def low (n f : Nat) : List Int := ((List.range n).filter fun i => i &&& f == 0).map fun i : Nat => (i : Int)
def isFar (f : Int) : Bool := f == 1 || f == 2 || f == 4 || f == 8
def dist (n : Nat) (f : Int) : Bool := isFar f && decide (f < n)
def proc (L : List Int) (x y i k : Nat) : Bool := decide (place L i < x ∨ (place L i = x ∧ place L k < y))
def cellS (zss : List (List Int)) (L : List Int) (f x y r s : Nat) : Int :=
  if r &&& f = 0 ∧ s &&& f ≠ 0 then (if proc L x y r (s - f) = true then el zss (r + f) (s - f) else el zss r s)
  else if r &&& f ≠ 0 ∧ s &&& f = 0 then (if proc L x y (r - f) s = true then el zss (r - f) (s + f) else el zss r s)
  else el zss r s
/-- The square behind the exchanges of the first x lower lanes with all, and of the next one with the first y. -/
def stM (zss : List (List Int)) (n f x y : Nat) : List (List Int) := tabR (fun r => tab (fun s => cellS zss (low n f) f x y r s) n) n
def stepL (zss : List (List Int)) (n f : Nat) : List (List Int) := tabR (fun r => tab (fun s => if r &&& f ≠ s &&& f then el zss (r ^^^ f) (s ^^^ f) else el zss r s) n) n
def tstep (b : Int) (zss : List (List Int)) (f : Int) : List (List Int) × Bool := ansR (rowsOk b zss && dist zss.length f) (stepL zss zss.length f.toNat)
/-- What is known of a distance. -/
def Dst (n f : Nat) : Prop := 0 < f ∧
  (∀ r, r < n → r &&& f = 0 → r + f < n ∧ (r + f) &&& f ≠ 0 ∧ place (low n f) r < (low n f).length ∧ r ^^^ f = r + f) ∧
  (∀ r, r < n → r &&& f ≠ 0 → f ≤ r ∧ (r - f) &&& f = 0 ∧ r ^^^ f = r - f ∧ r &&& f = f) ∧
  (∀ x, x < (low n f).length → (low n f).getD x 0 = ((low n f).getD x 0).toNat ∧ ((low n f).getD x 0).toNat < n ∧ ((low n f).getD x 0).toNat &&& f = 0 ∧ place (low n f) ((low n f).getD x 0) = x)
instance (n f : Nat) : Decidable (Dst n f) := by unfold Dst; infer_instance
theorem dst_of {n : Nat} {f : Int} (hl : lanes n = true) (h : dist n f = true) : Dst n f.toNat ∧ ∃ k : Nat, f = (k : Int) ∧ k < n ∧ k ≤ 8 := by
  have h1 := lanes_cases hl
  simp only [dist, isFar, Bool.and_eq_true, Bool.or_eq_true, beq_iff_eq, decide_eq_true_eq] at h
  obtain ⟨h2, h3⟩ := h
  have h4 : n = 2 ∨ n = 4 ∨ n = 8 ∨ n = 16 := by omega
  rcases h2 with ((rfl | rfl) | rfl) | rfl
  · refine ⟨?_, 1, rfl, by omega, by omega⟩
    rcases h4 with rfl | rfl | rfl | rfl <;> decide
  · refine ⟨?_, 2, rfl, by omega, by omega⟩
    rcases h4 with rfl | rfl | rfl | rfl
    · omega
    · decide
    · decide
    · decide
  · refine ⟨?_, 4, rfl, by omega, by omega⟩
    rcases h4 with rfl | rfl | rfl | rfl
    · omega
    · omega
    · decide
    · decide
  · refine ⟨?_, 8, rfl, by omega, by omega⟩
    rcases h4 with rfl | rfl | rfl | rfl
    · omega
    · omega
    · omega
    · decide
theorem el_tabR (g : Nat → Nat → Int) (n r s : Nat) (hr : r < n) (hs : s < n) : el (tabR (fun r => tab (fun s => g r s) n) n) r s = g r s := by
  unfold el
  rw [tabR_getD _ _ _ hr, tab_getD _ _ _ hs]
theorem stM_el (zss : List (List Int)) (n f x y r s : Nat) (hr : r < n) (hs : s < n) : el (stM zss n f x y) r s = cellS zss (low n f) f x y r s := el_tabR _ n r s hr hs
theorem stM_len (zss : List (List Int)) (n f x y : Nat) : (stM zss n f x y).length = n := tabR_len _ _
theorem stM_row (zss : List (List Int)) (n f x y r : Nat) (hr : r < n) : ((stM zss n f x y).getD r []).length = n := by
  unfold stM; rw [tabR_getD _ _ _ hr, tab_len]
/-- Squares with the same elements are equal. -/
theorem sq_ext {n : Nat} {X Y : List (List Int)} (hx : X.length = n) (hy : Y.length = n) (rx : ∀ r, r < n → (X.getD r []).length = n) (ry : ∀ r, r < n → (Y.getD r []).length = n) (h : ∀ r s, r < n → s < n → el X r s = el Y r s) : X = Y := by
  apply List.ext_getElem
  · rw [hx, hy]
  · intro r h1 h2
    have hr : r < n := by omega
    have e1 : X.getD r [] = X[r] := by rw [List.getD_eq_getElem?_getD, List.getElem?_eq_getElem h1]; rfl
    have e2 : Y.getD r [] = Y[r] := by rw [List.getD_eq_getElem?_getD, List.getElem?_eq_getElem h2]; rfl
    have l1 := rx r hr
    have l2 := ry r hr
    rw [e1] at l1
    rw [e2] at l2
    apply List.ext_getElem
    · rw [l1, l2]
    · intro s h3 h4
      have := h r s hr (by omega)
      unfold el at this
      rw [e1, e2, List.getD_eq_getElem?_getD, List.getD_eq_getElem?_getD, List.getElem?_eq_getElem h3, List.getElem?_eq_getElem h4] at this
      exact this
theorem getD_setRM (zss : List (List Int)) (k j : Nat) (ys : List Int) (h : k < zss.length) : (zss.set k ys).getD j [] = if k = j then ys else zss.getD j [] := by
  rw [List.getD_eq_getElem?_getD, List.getD_eq_getElem?_getD, List.getElem?_set]
  by_cases e : k = j
  · subst e; simp [h]
  · simp [e]
theorem el_set (zss : List (List Int)) (k j r s : Nat) (v : Int) (h : k < zss.length) (hj : j < (zss.getD k []).length) : el (zss.set k ((zss.getD k []).set j v)) r s = if k = r ∧ j = s then v else el zss r s := by
  unfold el
  rw [getD_setRM _ _ _ _ h]
  by_cases e : k = r
  · subst e
    rw [if_pos rfl, List.getD_eq_getElem?_getD, List.getElem?_set]
    by_cases e2 : j = s
    · subst e2
      rw [if_pos rfl, if_pos hj, if_pos ⟨rfl, rfl⟩]; rfl
    · rw [if_neg e2, if_neg (fun hh => e2 hh.2), ← List.getD_eq_getElem?_getD]
  · rw [if_neg e, if_neg (fun hh => e hh.1)]
theorem rows_set (zss : List (List Int)) (k j n : Nat) (v : Int) (h : k < zss.length) (hr : ∀ r, r < n → (zss.getD r []).length = n) : ∀ r, r < n → ((zss.set k ((zss.getD k []).set j v)).getD r []).length = n := by
  intro r hrn
  rw [getD_setRM _ _ _ _ h]
  by_cases e : k = r
  · subst e; rw [if_pos rfl, List.length_set]; exact hr _ hrn
  · rw [if_neg e]; exact hr r hrn
theorem place_inj {n f : Nat} (D : Dst n f) {r x : Nat} (hr : r < n) (h0 : r &&& f = 0) (hx : x < (low n f).length) (e : place (low n f) r = x) : ((low n f).getD x 0).toNat = r := by
  have h1 := (D.2.1 r hr h0).2.2.1
  have h2 := place_at h1
  rw [e] at h2
  rw [h2]; exact Int.toNat_natCast r
theorem stM_zero {b : Int} {zss : List (List Int)} (h : rowsOk b zss = true) (f : Nat) : stM zss zss.length f 0 0 = zss := by
  obtain ⟨_, _, h3⟩ := rowsOk_at h
  refine sq_ext (n := zss.length) (stM_len _ _ _ _ _) rfl (fun r hr => stM_row _ _ _ _ _ _ hr) (fun r hr => (h3 r hr).1) fun r s hr hs => ?_
  rw [stM_el _ _ _ _ _ _ _ hr hs]
  have hp : ∀ i k, proc (low zss.length f) 0 0 i k = false := fun i k => decide_eq_false (by omega)
  unfold cellS
  simp [hp]
theorem stM_next (zss : List (List Int)) (n f x : Nat) (D : Dst n f) : stM zss n f x (low n f).length = stM zss n f (x + 1) 0 := by
  refine sq_ext (n := n) (stM_len _ _ _ _ _) (stM_len _ _ _ _ _) (fun r hr => stM_row _ _ _ _ _ _ hr) (fun r hr => stM_row _ _ _ _ _ _ hr) fun r s hr hs => ?_
  rw [stM_el _ _ _ _ _ _ _ hr hs, stM_el _ _ _ _ _ _ _ hr hs]
  have key : ∀ i k, k < n → k &&& f = 0 → proc (low n f) x (low n f).length i k = proc (low n f) (x + 1) 0 i k := by
    intro i k hk h0
    have := (D.2.1 k hk h0).2.2.1
    unfold proc
    rw [decide_eq_decide]
    omega
  unfold cellS
  by_cases h1 : r &&& f = 0 ∧ s &&& f ≠ 0
  · rw [if_pos h1, if_pos h1]
    have h2 := D.2.2.1 s hs h1.2
    rw [key r (s - f) (by omega) h2.2.1]
  · rw [if_neg h1, if_neg h1]
    by_cases h3 : r &&& f ≠ 0 ∧ s &&& f = 0
    · rw [if_pos h3, if_pos h3, key (r - f) s hs h3.2]
    · rw [if_neg h3, if_neg h3]
theorem stM_all (zss : List (List Int)) (n f : Nat) (D : Dst n f) : stM zss n f (low n f).length 0 = stepL zss n f := by
  refine sq_ext (n := n) (stM_len _ _ _ _ _) (tabR_len _ _) (fun r hr => stM_row _ _ _ _ _ _ hr) (fun r hr => by unfold stepL; rw [tabR_getD _ _ _ hr, tab_len]) fun r s hr hs => ?_
  rw [stM_el _ _ _ _ _ _ _ hr hs, show el (stepL zss n f) r s = _ from el_tabR _ n r s hr hs]
  have key : ∀ i k, i < n → i &&& f = 0 → proc (low n f) (low n f).length 0 i k = true := by
    intro i k hi h0
    exact decide_eq_true (.inl (D.2.1 i hi h0).2.2.1)
  unfold cellS
  by_cases h1 : r &&& f = 0
  · by_cases h2 : s &&& f = 0
    · rw [if_neg (by omega), if_neg (by omega), if_neg (by omega)]
    · have a1 := D.2.1 r hr h1
      have a2 := D.2.2.1 s hs h2
      rw [if_pos ⟨h1, h2⟩, if_pos (key r (s - f) hr h1), if_pos (by omega), a1.2.2.2, a2.2.2.1]
  · by_cases h2 : s &&& f = 0
    · have a1 := D.2.2.1 r hr h1
      have a2 := D.2.1 s hs h2
      rw [if_neg (by omega), if_pos ⟨h1, h2⟩, if_pos (key (r - f) s (by omega) a1.2.1), if_pos (by omega), a1.2.2.1, a2.2.2.2]
    · have a1 := D.2.2.1 r hr h1
      have a2 := D.2.2.1 s hs h2
      rw [if_neg (by omega), if_neg (by omega), if_neg (by omega)]
theorem stM_step {zss : List (List Int)} {n f x y i k : Nat} (D : Dst n f) (hx : x < (low n f).length) (hy : y < (low n f).length) (ei : (low n f).getD x 0 = (i : Int)) (ek : (low n f).getD y 0 = (k : Int)) :
    i < n ∧ i + f < n ∧ k < n ∧ k + f < n ∧ el (stM zss n f x y) (i + f) k = el zss (i + f) k ∧ el (stM zss n f x y) i (k + f) = el zss i (k + f) ∧
    ((stM zss n f x y).set i (((stM zss n f x y).getD i []).set (k + f) (el zss (i + f) k))).set (i + f) (((stM zss n f x y).getD (i + f) []).set k (el zss i (k + f))) = stM zss n f x (y + 1) := by
  obtain ⟨_, i1, i2, i3⟩ := D.2.2.2 x hx
  obtain ⟨_, k1, k2, k3⟩ := D.2.2.2 y hy
  rw [ei, Int.toNat_natCast] at i1 i2
  rw [ek, Int.toNat_natCast] at k1 k2
  rw [ei] at i3
  rw [ek] at k3
  have ai := D.2.1 i i1 i2
  have ak := D.2.1 k k1 k2
  have hf := D.1
  have inji : ∀ r, r < n → r &&& f = 0 → place (low n f) r = x → r = i := fun r hr h0 e => by
    have := place_inj D hr h0 hx e
    rw [ei, Int.toNat_natCast] at this; exact this.symm
  have injk : ∀ r, r < n → r &&& f = 0 → place (low n f) r = y → r = k := fun r hr h0 e => by
    have := place_inj D hr h0 hy e
    rw [ek, Int.toNat_natCast] at this; exact this.symm
  have np : proc (low n f) x y i k = false := decide_eq_false (by rw [i3, k3]; omega)
  have e1 : el (stM zss n f x y) (i + f) k = el zss (i + f) k := by
    rw [stM_el _ _ _ _ _ _ _ ai.1 k1]
    unfold cellS
    rw [if_neg (fun h => ai.2.1 h.1), if_pos ⟨ai.2.1, k2⟩, show i + f - f = i by omega, np]
    rfl
  have e2 : el (stM zss n f x y) i (k + f) = el zss i (k + f) := by
    rw [stM_el _ _ _ _ _ _ _ i1 ak.1]
    unfold cellS
    rw [if_pos ⟨i2, ak.2.1⟩, show k + f - f = k by omega, np]
    rfl
  refine ⟨i1, ai.1, k1, ak.1, e1, e2, ?_⟩
  have hl := stM_len zss n f x y
  have hr := fun r hr => stM_row zss n f x y r hr
  have g1 : ((stM zss n f x y).set i (((stM zss n f x y).getD i []).set (k + f) (el zss (i + f) k))).getD (i + f) [] = (stM zss n f x y).getD (i + f) [] := by
    rw [getD_setRM _ _ _ _ (by omega), if_neg (by omega)]
  have hr1 := rows_set (stM zss n f x y) i (k + f) n (el zss (i + f) k) (by omega) hr
  refine sq_ext (n := n) (by simp [hl]) (stM_len _ _ _ _ _) ?_ (fun r hr => stM_row _ _ _ _ _ _ hr) fun r s hr' hs => ?_
  · rw [← g1]
    exact rows_set _ (i + f) k n _ (by simp [hl]; exact ai.1) hr1
  · rw [← g1, el_set _ _ _ _ _ _ (by simp [hl]; exact ai.1) (by rw [hr1 _ ai.1]; exact k1), el_set _ _ _ _ _ _ (by rw [hl]; exact i1) (by rw [hr _ i1]; exact ak.1), stM_el _ _ _ _ _ _ _ hr' hs, stM_el _ _ _ _ _ _ _ hr' hs]
    have pm : ∀ a c, a < n → a &&& f = 0 → c < n → c &&& f = 0 → ¬ (a = i ∧ c = k) → proc (low n f) x (y + 1) a c = proc (low n f) x y a c := by
      intro a c ha h0 hc h0' hne
      unfold proc
      rw [decide_eq_decide]
      constructor
      · rintro (h | ⟨h1, h2⟩)
        · exact .inl h
        · refine .inr ⟨h1, ?_⟩
          rcases Nat.lt_or_ge (place (low n f) (c : Int)) y with h3 | h3
          · exact h3
          · exact absurd ⟨inji a ha h0 h1, injk c hc h0' (by omega)⟩ hne
      · omega
    have pt : proc (low n f) x (y + 1) i k = true := decide_eq_true (.inr ⟨i3, by omega⟩)
    by_cases c1 : i + f = r ∧ k = s
    · obtain ⟨rfl, rfl⟩ := c1
      rw [if_pos ⟨rfl, rfl⟩]
      unfold cellS
      rw [if_neg (fun h => ai.2.1 h.1), if_pos ⟨ai.2.1, k2⟩, show i + f - f = i by omega, if_pos pt]
    · rw [if_neg c1]
      by_cases c2 : i = r ∧ k + f = s
      · obtain ⟨rfl, rfl⟩ := c2
        rw [if_pos ⟨rfl, rfl⟩]
        unfold cellS
        rw [if_pos ⟨i2, ak.2.1⟩, show k + f - f = k by omega, if_pos pt]
      · rw [if_neg c2]
        unfold cellS
        by_cases d1 : r &&& f = 0 ∧ s &&& f ≠ 0
        · rw [if_pos d1, if_pos d1]
          have a2 := D.2.2.1 s hs d1.2
          rw [pm r (s - f) hr' d1.1 (by omega) a2.2.1 (by omega)]
        · rw [if_neg d1, if_neg d1]
          by_cases d2 : r &&& f ≠ 0 ∧ s &&& f = 0
          · rw [if_pos d2, if_pos d2]
            have a1 := D.2.2.1 r hr' d2.1
            rw [pm (r - f) s (by omega) a1.2.1 hs d2.2 (by omega)]
          · rw [if_neg d2, if_neg d2]
theorem stepL_len (zss : List (List Int)) (n f : Nat) : (stepL zss n f).length = n := tabR_len _ _
theorem tot_tstep (b : Int) (zss : List (List Int)) (f : Int) : totL (tstep b zss f).1 ≤ 1048576 := by
  unfold tstep ansR
  cases h : (rowsOk b zss && dist zss.length f)
  · rw [if_neg (by simp)]; decide
  · rw [if_pos rfl]
    simp only [Bool.and_eq_true] at h
    obtain ⟨h1, _, _⟩ := rowsOk_at h.1
    have h4 := sumL_tabR (fun r => tab (fun s => if r &&& f.toNat ≠ s &&& f.toNat then el zss (r ^^^ f.toNat) (s ^^^ f.toNat) else el zss r s) zss.length) zss.length zss.length (fun i hi => tab_len _ _)
    unfold totL
    rw [stepL_len]
    unfold stepL
    rw [h4]
    have := lanes_cases h1
    have : zss.length = 2 ∨ zss.length = 4 ∨ zss.length = 8 ∨ zss.length = 16 := by omega
    rcases this with e | e | e | e <;> rw [e] <;> decide
theorem low_succ (n f : Nat) : low (n + 1) f = low n f ++ (if n &&& f = 0 then [(n : Int)] else []) := by
  unfold low
  rw [List.range_succ, List.filter_append, List.map_append]
  by_cases h : n &&& f = 0
  · simp [h]
  · simp [h]
theorem low_len (n f : Nat) : (low n f).length ≤ n := by
  unfold low
  rw [List.length_map]
  exact Nat.le_trans (List.length_filter_le _ _) (by simp)
end Ln
