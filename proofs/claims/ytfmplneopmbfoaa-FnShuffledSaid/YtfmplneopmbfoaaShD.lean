/-
  Shuffles that are drawn, and what the law FnShuffled says of them: two in turn are one, an inverse leads back, lanes that are picked. Plain mathematics.
-/
import Derived.Test.YtfmplneopmbfoaaNamF
import Derived.Test.YtfmplneopmbfoaaLan6
namespace Ln
set_option linter.unusedVariables false

theorem set_at {zs : List Int} {k j : Nat} {v : Int} (hj : j < zs.length) : (zs.set k v).getD j 0 = if k = j then v else zs.getD j 0 := by
  rw [List.getD_eq_getElem?_getD, List.getElem?_set]
  by_cases e : k = j
  · rw [if_pos e, if_pos e, if_pos (by omega)]; rfl
  · rw [if_neg e, if_neg e, ← List.getD_eq_getElem?_getD]
theorem mem_getD {zs : List Int} {x : Int} : x ∈ zs ↔ ∃ j, j < zs.length ∧ zs.getD j 0 = x := by
  constructor
  · intro h
    obtain ⟨j, hj, e⟩ := List.getElem_of_mem h
    exact ⟨j, hj, by rw [List.getD_eq_getElem?_getD, List.getElem?_eq_getElem hj]; exact e⟩
  · rintro ⟨j, hj, e⟩
    rw [List.getD_eq_getElem?_getD, List.getElem?_eq_getElem hj] at e
    rw [← e]; exact List.getElem_mem hj
/-- Two elements change places. -/
def swp (zs : List Int) (k i : Nat) : List Int := (zs.set k (zs.getD i 0)).set i (zs.getD k 0)
theorem swp_len (zs : List Int) (k i : Nat) : (swp zs k i).length = zs.length := by simp [swp]
theorem swp_at {zs : List Int} {k i j : Nat} (hj : j < zs.length) : (swp zs k i).getD j 0 = if i = j then zs.getD k 0 else if k = j then zs.getD i 0 else zs.getD j 0 := by
  rw [swp, set_at (by simpa using hj), set_at hj]
theorem swp_mem {zs : List Int} {k i : Nat} (hk : k < zs.length) (hi : i < zs.length) (x : Int) : x ∈ swp zs k i ↔ x ∈ zs := by
  rw [mem_getD, mem_getD, swp_len]
  constructor
  · rintro ⟨j, hj, e⟩
    rw [swp_at hj] at e
    by_cases e1 : i = j
    · rw [if_pos e1] at e; exact ⟨k, hk, e⟩
    · rw [if_neg e1] at e
      by_cases e2 : k = j
      · rw [if_pos e2] at e; exact ⟨i, hi, e⟩
      · rw [if_neg e2] at e; exact ⟨j, hj, e⟩
  · rintro ⟨j, hj, e⟩
    by_cases e1 : j = k
    · subst e1
      exact ⟨i, hi, by rw [swp_at hi, if_pos rfl]; exact e⟩
    · by_cases e2 : j = i
      · subst e2
        refine ⟨k, hk, ?_⟩
        rw [swp_at hk, if_neg e1, if_pos rfl]; exact e
      · exact ⟨j, hj, by rw [swp_at hj, if_neg (fun h => e2 h.symm), if_neg (fun h => e1 h.symm)]; exact e⟩
theorem idxs_mem {m : Nat} {zs : List Int} : idxs m zs = true ↔ ∀ x ∈ zs, 0 ≤ x ∧ x < m := by simp [idxs]
theorem allIn_mem {m : Nat} {zs : List Int} : allIn m zs = true ↔ ∀ i, i < m → (i : Int) ∈ zs := by simp [allIn]
theorem ord_swp {zs : List Int} {k i : Nat} (h : ord zs = true) (hk : k < zs.length) (hi : i < zs.length) : ord (swp zs k i) = true := by
  simp only [ord, shuf, Bool.and_eq_true] at h ⊢
  rw [swp_len]
  obtain ⟨⟨h1, h2⟩, h3⟩ := h
  refine ⟨⟨h1, ?_⟩, ?_⟩
  · rw [idxs_mem] at h2 ⊢
    intro x hx
    exact h2 x ((swp_mem hk hi x).1 hx)
  · rw [allIn_mem] at h3 ⊢
    intro j hj
    exact (swp_mem hk hi _).2 (h3 j hj)
theorem same_ord {n : Nat} (h : lanes (n : Int) = true) : ord (tab (fun i => (i : Int)) n) = true := by
  have := lanes_cases h
  have h4 : n = 2 ∨ n = 4 ∨ n = 8 ∨ n = 16 := by omega
  rcases h4 with rfl | rfl | rfl | rfl <;> decide
theorem shuf_of {n : Nat} {zs : List Int} (hl : lanes (n : Int) = true) (hz : zs.length = n) (h : ∀ x ∈ zs, 0 ≤ x ∧ x < n) : shuf zs = true := by
  rw [shuf, hz, hl, Bool.true_and, idxs_mem]; exact h
theorem shuf_at {n : Nat} {zs : List Int} (h : shuf zs = true) (hz : zs.length = n) {k : Nat} (hk : k < n) : 0 ≤ zs.getD k 0 ∧ zs.getD k 0 < n := by
  have := idxs_at (shuf_idxs h) (k := k) (by omega)
  rw [hz] at this; exact this
theorem pickL_at {a is : List Int} {k : Nat} (hk : k < is.length) : (pickL a is).getD k 0 = a.getD (is.getD k 0).toNat 0 := by
  unfold pickL; exact tab_getD _ _ _ hk
theorem pick_vec {b : Int} {n : Nat} {a s : List Int} (ha : vec b a = true) (hs : shuf s = true) (hl : a.length = n) (hn : s.length = n) : vec b (pickL a s) = true := by
  have hlan := vec_lanes ha
  rw [hl, ← hn] at hlan
  exact vec_tab hlan fun i hi => vec_word ha (by have := shuf_at hs hn (k := i) (by omega); omega)
theorem shuffle_yes {b : Int} {n : Nat} {s a : List Int} (hs : shuf s = true) (ha : vec b a = true) (hn : s.length = n) (hl : a.length = n) : shuffle b s a = (pickL a s, true) := by
  unfold shuffle
  rw [hs, ha, hn, hl]
  exact ans_yes _ (by simp)
theorem thenS_yes {n : Nat} {f s : List Int} (hf : shuf f = true) (hs : shuf s = true) (h1 : f.length = n) (h2 : s.length = n) : thenS f s = (pickL f s, true) := by
  unfold thenS
  rw [hf, hs, h1, h2]
  exact ans_yes _ (by simp)
theorem pick_shuf {n : Nat} {f s : List Int} (hf : shuf f = true) (hs : shuf s = true) (h1 : f.length = n) (h2 : s.length = n) : shuf (pickL f s) = true := by
  have hlan : lanes (n : Int) = true := by
    have := hs
    simp only [shuf, Bool.and_eq_true] at this
    rw [h2] at this; exact this.1
  refine shuf_of hlan (by rw [pickL_len, h2]) fun x hx => ?_
  obtain ⟨j, hj, rfl⟩ := mem_getD.1 hx
  rw [pickL_len] at hj
  rw [pickL_at hj]
  exact shuf_at hf h1 (by have := shuf_at hs h2 (k := j) (by omega); omega)
theorem pick_pick {n : Nat} {a f s : List Int} (hs : shuf s = true) (h1 : f.length = n) (h2 : s.length = n) : pickL a (pickL f s) = pickL (pickL a f) s := by
  unfold pickL
  rw [tab_len]
  refine tab_congr fun i hi => ?_
  have := shuf_at hs h2 (k := i) (by omega)
  rw [tab_getD _ _ _ hi, tab_getD _ _ _ (by omega)]
theorem inverse_yes {o : List Int} (h : ord o = true) : inverse o = (invL o, true) := by unfold inverse; exact ans_yes _ h
theorem invL_len (o : List Int) : (invL o).length = o.length := tab_len _ _
theorem invL_shuf {n : Nat} {o : List Int} (h : ord o = true) (hn : o.length = n) : shuf (invL o) = true := by
  obtain ⟨h1, h2⟩ := ord_at h
  have hlan : lanes (n : Int) = true := by
    have := h1
    simp only [shuf, Bool.and_eq_true] at this
    rw [hn] at this; exact this.1
  refine shuf_of hlan (by rw [invL_len, hn]) fun x hx => ?_
  obtain ⟨j, hj, rfl⟩ := mem_getD.1 hx
  rw [invL_len] at hj
  rw [invL_at hj]
  have := place_mem (allIn_at h2 hj)
  omega
theorem pick_back {n : Nat} {a o : List Int} (h : ord o = true) (hn : o.length = n) (ha : a.length = n) : pickL (pickL a o) (invL o) = a := by
  obtain ⟨h1, h2⟩ := ord_at h
  have e := tab_self a
  rw [ha, ← hn] at e
  unfold pickL
  rw [invL_len]
  refine Eq.trans (tab_congr fun i hi => ?_) e
  rw [invL_at hi]
  have hp := place_mem (allIn_at h2 hi)
  have hpa := place_at hp
  rw [tab_getD _ _ _ (by omega), Int.toNat_natCast, hpa, Int.toNat_natCast]
/-- The list of the lanes that are picked: those of the first vector at even places, those of the second at odd ones. -/
def pks (f : List Int) (n k : Nat) : List Int := tab (fun i => f.getD i 0 + (n : Int) * ((i : Int) % 2)) k
theorem pks_succ (f : List Int) (n k : Nat) : pks f n (k + 1) = pks f n k ++ [f.getD k 0 + (n : Int) * ((k : Int) % 2)] := tab_succ _ _
theorem pks_len (f : List Int) (n k : Nat) : (pks f n k).length = k := tab_len _ _
theorem pks_bd {f : List Int} {n i : Nat} (hf : shuf f = true) (h1 : f.length = n) (hi : i < n) : 0 ≤ f.getD i 0 + (n : Int) * ((i : Int) % 2) ∧ f.getD i 0 + (n : Int) * ((i : Int) % 2) < 2 * n := by
  have := shuf_at hf h1 hi
  rcases (show (i : Int) % 2 = 0 ∨ (i : Int) % 2 = 1 by omega) with e | e <;> rw [e] <;> omega
theorem pks_yes {b : Int} {n : Nat} {f a u : List Int} (hf : shuf f = true) (h1 : f.length = n) (ha : vec b a = true) (hu : vec b u = true) (la : a.length = n) (lu : u.length = n) : pick b (pks f n n) a u = (pickL (a ++ u) (pks f n n), true) := by
  unfold pick
  rw [both_of ha hu (by omega), pks_len, la]
  refine ans_yes _ ?_
  rw [show (n == n) = true by simp, Bool.true_and, Bool.true_and, idxs_mem]
  intro x hx
  obtain ⟨j, hj, rfl⟩ := mem_getD.1 hx
  rw [pks_len] at hj
  rw [pks, tab_getD _ _ _ hj]
  have := pks_bd hf h1 hj
  omega
theorem pks_at {n i : Nat} {f a u : List Int} (hf : shuf f = true) (h1 : f.length = n) (la : a.length = n) (lu : u.length = n) (hi : i < n) :
    (pickL (a ++ u) (pks f n n)).getD i 0 = if i % 2 = 0 then a.getD (f.getD i 0).toNat 0 else u.getD (f.getD i 0).toNat 0 := by
  rw [pickL_at (by rw [pks_len]; exact hi), pks, tab_getD _ _ _ hi]
  have := shuf_at hf h1 hi
  by_cases e : i % 2 = 0
  · rw [if_pos e, show (i : Int) % 2 = 0 by omega, Int.mul_zero, Int.add_zero]
    rw [List.getD_eq_getElem?_getD, List.getElem?_append_left (by omega), ← List.getD_eq_getElem?_getD]
  · rw [if_neg e, show (i : Int) % 2 = 1 by omega, Int.mul_one]
    rw [List.getD_eq_getElem?_getD, List.getElem?_append_right (by omega), ← List.getD_eq_getElem?_getD]
    congr 1
    omega
end Ln
