/-
  Plain mathematics of lists of lists of numbers: how many numbers they hold, marks for all of them, tables of rows. No program, no memory.
-/
import Derived.Test.YtfmplneopmbfoaaLan
namespace Ln
set_option linter.unusedVariables false
/-- How many numbers lists hold. -/
def sumL (zss : List (List Int)) : Nat := (zss.map List.length).foldl (· + ·) 0
/-- What the size of lists of lists is. -/
def totL (zss : List (List Int)) : Nat := zss.length + sumL zss
theorem foldl_add (l : List Nat) : ∀ a : Nat, l.foldl (· + ·) a = a + l.foldl (· + ·) 0 := by
  induction l with
  | nil => intro a; simp
  | cons x l ih => intro a; simp only [List.foldl_cons]; rw [ih (a + x), ih (0 + x)]; omega
theorem sumL_nil : sumL [] = 0 := rfl
theorem sumL_cons (z : List Int) (zss : List (List Int)) : sumL (z :: zss) = z.length + sumL zss := by
  unfold sumL; simp only [List.map_cons, List.foldl_cons]; rw [foldl_add]; omega
theorem sumL_append (xs ys : List (List Int)) : sumL (xs ++ ys) = sumL xs + sumL ys := by
  induction xs with
  | nil => simp [sumL_nil]
  | cons x xs ih => rw [List.cons_append, sumL_cons, sumL_cons, ih]; omega
theorem takeR_snoc (zss : List (List Int)) (k : Nat) (h : k < zss.length) : zss.take (k + 1) = zss.take k ++ [zss.getD k []] := by
  rw [List.take_succ_eq_append_getElem h, List.getD_eq_getElem?_getD, List.getElem?_eq_getElem h]; rfl
theorem sumL_take (zss : List (List Int)) (k : Nat) (h : k < zss.length) : sumL (zss.take (k + 1)) = sumL (zss.take k) + (zss.getD k []).length := by
  rw [takeR_snoc zss k h, sumL_append, sumL_cons, sumL_nil]; omega
theorem sumL_le (zss : List (List Int)) (k : Nat) : sumL (zss.take k) ≤ sumL zss := by
  have := sumL_append (zss.take k) (zss.drop k)
  rw [List.take_append_drop] at this
  omega
theorem row_le (zss : List (List Int)) (k : Nat) (h : k < zss.length) : (zss.getD k []).length + sumL (zss.take k) ≤ sumL zss := by
  have := sumL_take zss k h
  have := sumL_le zss (k + 1)
  omega
theorem getDR (zss : List (List Int)) (k : Nat) (h : k < zss.length) : zss[k]? = some (zss.getD k []) := by
  rw [List.getD_eq_getElem?_getD, List.getElem?_eq_getElem h]; rfl
/-- Rows filled from the first on; the others are empty. -/
def fillR (zss : List (List Int)) (k : Nat) : List (List Int) := zss.take k ++ List.replicate (zss.length - k) []
theorem fillR_zero (zss : List (List Int)) : fillR zss 0 = List.replicate zss.length [] := by simp [fillR]
theorem fillR_all (zss : List (List Int)) : fillR zss zss.length = zss := by simp [fillR]
theorem fillR_len (zss : List (List Int)) (k : Nat) (h : k ≤ zss.length) : (fillR zss k).length = zss.length := by simp [fillR]; omega
theorem fillR_set (zss : List (List Int)) (k : Nat) (h : k < zss.length) : (fillR zss k).set k (zss.getD k []) = fillR zss (k + 1) := by
  unfold fillR
  rw [List.set_append_right _ _ (by simp; omega), takeR_snoc zss k h]
  obtain ⟨m, hm⟩ : ∃ m, zss.length - k = m + 1 := ⟨zss.length - k - 1, by omega⟩
  have hm' : zss.length - (k + 1) = m := by omega
  have hmin : k - (zss.take k).length = 0 := by simp; omega
  rw [hm, hm', hmin, List.replicate_succ]
  simp
def tabR (f : Nat → List Int) (n : Nat) : List (List Int) := (List.range n).map f
theorem tabR_len (f : Nat → List Int) (n : Nat) : (tabR f n).length = n := by simp [tabR]
theorem tabR_getD (f : Nat → List Int) (n k : Nat) (h : k < n) : (tabR f n).getD k [] = f k := by
  simp [tabR, List.getD_eq_getElem?_getD, h]
theorem tabR_succ (f : Nat → List Int) (n : Nat) : tabR f (n + 1) = tabR f n ++ [f n] := by simp [tabR, List.range_succ]
theorem tabR_take (f : Nat → List Int) (n k : Nat) (h : k ≤ n) : (tabR f n).take k = tabR f k := by
  simp [tabR, ← List.map_take, List.take_range, Nat.min_eq_left h]
theorem tabR_congr {f g : Nat → List Int} {n : Nat} (h : ∀ i, i < n → f i = g i) : tabR f n = tabR g n := by
  unfold tabR; exact List.map_congr_left fun i hi => h i (List.mem_range.1 hi)
theorem tabR_self (zss : List (List Int)) : tabR (fun i => zss.getD i []) zss.length = zss := by
  apply List.ext_getElem
  · simp [tabR]
  · intro i h1 h2
    simp [tabR, List.getD_eq_getElem?_getD, h2]
theorem sumL_tabR (f : Nat → List Int) (n m : Nat) (h : ∀ i, i < n → (f i).length = m) : sumL (tabR f n) = n * m := by
  induction n with
  | zero => simp [tabR, sumL]
  | succ n ih =>
    rw [tabR_succ, sumL_append, sumL_cons, sumL_nil, ih (fun i hi => h i (by omega)), h n (by omega), Nat.succ_mul]
    omega
/-- Marks, one after another through all rows. -/
def marksL (k0 : Int) (n : Nat) : List Int := tab (fun i => k0 + i) n
def marksR (k0 : Int) (zss : List (List Int)) : List (List Int) := tabR (fun i => marksL (k0 + sumL (zss.take i)) (zss.getD i []).length) zss.length
theorem marksR_len (k0 : Int) (zss : List (List Int)) : (marksR k0 zss).length = zss.length := tabR_len _ _
theorem marksR_at (k0 : Int) (zss : List (List Int)) (k : Nat) (h : k < zss.length) : (marksR k0 zss).getD k [] = marksL (k0 + sumL (zss.take k)) (zss.getD k []).length := tabR_getD _ _ _ h
/-- The rows up to k are marked. -/
def mixR (k0 : Int) (zss : List (List Int)) (k : Nat) : List (List Int) := (marksR k0 zss).take k ++ zss.drop k
theorem mixR_zero (k0 : Int) (zss : List (List Int)) : mixR k0 zss 0 = zss := by simp [mixR]
theorem mixR_all (k0 : Int) (zss : List (List Int)) : mixR k0 zss zss.length = marksR k0 zss := by
  unfold mixR
  rw [← marksR_len k0 zss, List.take_length, marksR_len, List.drop_length, List.append_nil]
theorem mixR_len (k0 : Int) (zss : List (List Int)) (k : Nat) (h : k ≤ zss.length) : (mixR k0 zss k).length = zss.length := by
  simp [mixR, marksR_len]; omega
theorem mixR_at (k0 : Int) (zss : List (List Int)) (k : Nat) (h : k < zss.length) : (mixR k0 zss k).getD k [] = zss.getD k [] := by
  unfold mixR
  rw [List.getD_eq_getElem?_getD, List.getD_eq_getElem?_getD, List.getElem?_append_right (by rw [List.length_take]; omega), List.getElem?_drop]
  congr 2
  simp [marksR_len]; omega
theorem mixR_set (k0 : Int) (zss : List (List Int)) (k : Nat) (h : k < zss.length) : (mixR k0 zss k).set k (marksL (k0 + sumL (zss.take k)) (zss.getD k []).length) = mixR k0 zss (k + 1) := by
  unfold mixR
  rw [List.set_append_right _ _ (by rw [List.length_take]; omega), takeR_snoc (marksR k0 zss) k (by rw [marksR_len]; exact h), marksR_at k0 zss k h]
  have hmin : k - ((marksR k0 zss).take k).length = 0 := by simp [marksR_len]; omega
  rw [hmin]
  have hd : zss.drop k = zss[k] :: zss.drop (k + 1) := List.drop_eq_getElem_cons h
  rw [hd, List.set_cons_zero, List.append_assoc]
  rfl
end Ln
