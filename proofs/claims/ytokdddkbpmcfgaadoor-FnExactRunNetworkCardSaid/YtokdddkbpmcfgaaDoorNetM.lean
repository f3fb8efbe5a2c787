/-
  Plain mathematics of networks: which lists of switches are one, and what they make of a vector, pair by pair. No program, no memory.
-/
import Derived.Test.YtokdddkbpmcfgaaDoorTsM
namespace Ln
set_option linter.unusedVariables false
/-- The m for which a number of lanes is 2 to the power of m. -/
def pwr (n : Nat) : Nat := if n = 2 then 1 else if n = 4 then 2 else if n = 8 then 3 else 4
def swOk (n : Nat) (l : List Int) : Bool := l.length == n / 2 && idxs 2 l
def netOk (n : Int) (sw : List (List Int)) : Bool := lanes n && (sw.length == 2 * pwr n.toNat - 1 && sw.all (swOk n.toNat))
theorem bits_idxs (l : List Int) : (l.all fun z => z == 0 || z == 1) = idxs 2 l := by
  unfold idxs
  congr 1
  funext z
  rw [Bool.eq_iff_iff]
  simp
  omega
theorem netOk_at {n : Int} {sw : List (List Int)} (h : netOk n sw = true) : lanes n = true ∧ sw.length = 2 * pwr n.toNat - 1 ∧ ∀ s, s < sw.length → (sw.getD s []).length = n.toNat / 2 ∧ idxs 2 (sw.getD s []) = true := by
  simp only [netOk, Bool.and_eq_true, List.all_eq_true, beq_iff_eq] at h
  refine ⟨h.1, h.2.1, fun s hs => ?_⟩
  have := h.2.2 _ (List.getElem_mem hs)
  rw [List.getD_eq_getElem?_getD, List.getElem?_eq_getElem hs]
  simpa [swOk] using this
/-- The distance of a list of switches. -/
def farN (m s : Nat) : Nat := 2 ^ (max (m - 1 - s) (s - (m - 1)))
/-- Two lanes exchanged. -/
def swap (v : List Int) (i j : Nat) : List Int := (v.set i (v.getD j 0)).set j (v.getD i 0)
theorem swap_len (v : List Int) (i j : Nat) : (swap v i j).length = v.length := by simp [swap]
/-- A vector behind the first k switches of a list. -/
def swK (n f : Nat) (l : List Int) (v : List Int) : Nat → List Int
  | 0 => v
  | k + 1 => if l.getD k 0 = 1 then swap (swK n f l v k) ((low n f).getD k 0).toNat (((low n f).getD k 0).toNat + f) else swK n f l v k
theorem swK_len (n f : Nat) (l v : List Int) (k : Nat) : (swK n f l v k).length = v.length := by
  induction k with
  | zero => rfl
  | succ k ih => unfold swK; split
                 · rw [swap_len, ih]
                 · exact ih
/-- A vector behind the first s lists of switches. -/
def runK (n m : Nat) (sw : List (List Int)) (v : List Int) : Nat → List Int
  | 0 => v
  | s + 1 => swK n (farN m s) (sw.getD s []) (runK n m sw v s) (low n (farN m s)).length
theorem runK_len (n m : Nat) (sw : List (List Int)) (v : List Int) (s : Nat) : (runK n m sw v s).length = v.length := by
  induction s with
  | zero => rfl
  | succ s ih => unfold runK; rw [swK_len, ih]
def runNet (b : Int) (sw : List (List Int)) (v : List Int) : List Int × Bool := ans (vec b v && netOk v.length sw) (runK v.length (pwr v.length) sw v sw.length)
/-- What is known of a list's distance. -/
def Fars (n m : Nat) : Prop := m ≤ 4 ∧ n ≤ 16 ∧ ∀ s, s < 2 * m - 1 → Dst n (farN m s) ∧ farN m s < n ∧ farN m s ≤ 8 ∧ (low n (farN m s)).length = n / 2
instance (n m : Nat) : Decidable (Fars n m) := by unfold Fars; infer_instance
theorem fars_of {n : Nat} (h : lanes n = true) : Fars n (pwr n) ∧ n = 2 ^ pwr n ∧ 1 ≤ pwr n := by
  have := lanes_cases h
  have : n = 2 ∨ n = 4 ∨ n = 8 ∨ n = 16 := by omega
  rcases this with rfl | rfl | rfl | rfl <;> decide
/-- The lower lanes below i come first in the list of them all. -/
theorem low_prefix (n f i : Nat) (h : i < n) (h0 : i &&& f = 0) : (low n f).getD (low i f).length 0 = (i : Int) ∧ (low i f).length < (low n f).length := by
  have key : ∀ d, low (i + 1 + d) f = low (i + 1) f ++ (low (i + 1 + d) f).drop (low (i + 1) f).length ∧ (low (i + 1) f).length ≤ (low (i + 1 + d) f).length := by
    intro d
    induction d with
    | zero => simp
    | succ d ih =>
      rw [show i + 1 + (d + 1) = (i + 1 + d) + 1 by omega, low_succ]
      obtain ⟨h1, h2⟩ := ih
      refine ⟨?_, by rw [List.length_append]; omega⟩
      rw [List.drop_append_of_le_length h2, ← List.append_assoc, ← h1]
  obtain ⟨d, hd⟩ : ∃ d, n = i + 1 + d := ⟨n - (i + 1), by omega⟩
  obtain ⟨h1, h2⟩ := key d
  rw [← hd] at h1 h2
  have h3 : low (i + 1) f = low i f ++ [(i : Int)] := by rw [low_succ, if_pos h0]
  rw [h3] at h1 h2
  refine ⟨?_, by rw [List.length_append] at h2; simp at h2; omega⟩
  rw [h1, List.append_assoc, List.getD_eq_getElem?_getD, List.getElem?_append_right (Nat.le_refl _)]
  simp
end Ln
