/-
  Plain mathematics of turns: interleaved lanes are words and come back when they are taken apart.
-/
import Derived.Test.YtfmplneopmbfoaaLan5
namespace Ln
set_option linter.unusedVariables false

theorem vec_tab {b : Int} {f : Nat → Int} {n : Nat} (hl : lanes n = true) (h : ∀ i, i < n → Wd.IsWord b (f i)) : vec b (tab f n) = true := by
  unfold vec
  rw [tab_len, hl, Bool.true_and, List.all_eq_true]
  intro x hx
  obtain ⟨i, hi, rfl⟩ := List.mem_map.1 hx
  exact decide_eq_true (h i (List.mem_range.1 hi))
theorem vec_lanes {b : Int} {zs : List Int} (h : vec b zs = true) : lanes zs.length = true := by
  unfold vec at h; simp only [Bool.and_eq_true] at h; exact h.1
theorem both_of {b : Int} {xs ys : List Int} (h1 : vec b xs = true) (h2 : vec b ys = true) (hl : xs.length = ys.length) : both b xs ys = true := by
  unfold both; rw [h1, h2, hl]; simp
theorem weave_word {b : Int} {xs ys : List Int} {n : Nat} (hx : vec b xs = true) (hy : vec b ys = true) (lx : xs.length = n) (ly : ys.length = n) {i : Nat} (hi : i < n + n) : Wd.IsWord b (weave xs ys i) := by
  unfold weave
  split
  · exact vec_word hx (by omega)
  · exact vec_word hy (by omega)
theorem weave_both {b : Int} {xs ys : List Int} {n : Nat} (hx : vec b xs = true) (hy : vec b ys = true) (lx : xs.length = n) (ly : ys.length = n) : both b (tab (weave xs ys) n) (tab (fun i => weave xs ys (n + i)) n) = true := by
  have hl := vec_lanes hx
  rw [lx] at hl
  refine both_of (vec_tab hl fun i hi => weave_word hx hy lx ly (by omega)) (vec_tab hl fun i hi => weave_word hx hy lx ly (by omega)) ?_
  rw [tab_len, tab_len]
theorem app_getD {xs ys : List Int} {n i : Nat} (lx : xs.length = n) : (xs ++ ys).getD i 0 = if i < n then xs.getD i 0 else ys.getD (i - n) 0 := by
  split
  · rw [List.getD_eq_getElem?_getD, List.getElem?_append_left (by omega), ← List.getD_eq_getElem?_getD]
  · rw [List.getD_eq_getElem?_getD, List.getElem?_append_right (by omega), ← List.getD_eq_getElem?_getD, lx]
theorem weave_all {xs ys : List Int} {n i : Nat} (hi : i < n + n) : (tab (weave xs ys) n ++ tab (fun i => weave xs ys (n + i)) n).getD i 0 = weave xs ys i := by
  rw [app_getD (tab_len _ _)]
  split
  · rw [tab_getD _ _ _ (by assumption)]
  · rw [tab_getD _ _ _ (by omega)]
    show weave xs ys (n + (i - n)) = _
    rw [show n + (i - n) = i by omega]
theorem unweave_even {xs ys : List Int} {n : Nat} (lx : xs.length = n) : tab (fun i => (tab (weave xs ys) n ++ tab (fun i => weave xs ys (n + i)) n).getD (2 * i) 0) n = xs := by
  rw [tab_congr (g := fun i => xs.getD i 0) (fun i hi => by rw [weave_all (by omega), weave_even])]
  rw [← lx]; exact tab_self xs
theorem unweave_odd {xs ys : List Int} {n : Nat} (ly : ys.length = n) : tab (fun i => (tab (weave xs ys) n ++ tab (fun i => weave xs ys (n + i)) n).getD (2 * i + 1) 0) n = ys := by
  rw [tab_congr (g := fun i => ys.getD i 0) (fun i hi => by rw [weave_all (by omega), weave_odd])]
  rw [← ly]; exact tab_self ys
end Ln
