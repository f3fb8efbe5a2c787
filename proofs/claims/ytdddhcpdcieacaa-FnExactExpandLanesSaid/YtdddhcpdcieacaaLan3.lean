/-
  Plain mathematics of vectors, more: the lanes that are on, in order; the lanes spread to those that are on.
-/
import Derived.Test.YtdddhcpdcieacaaLan2
namespace Ln
set_option linter.unusedVariables false

/-- How many of the first k lanes are on. -/
def up (ms : List Int) : Nat → Nat
  | 0 => 0
  | k + 1 => up ms k + if ms.getD k 0 = 1 then 1 else 0
/-- The lanes of xs, of the first k, that are on. -/
def onK (ms xs : List Int) : Nat → List Int
  | 0 => []
  | k + 1 => onK ms xs k ++ if ms.getD k 0 = 1 then [xs.getD k 0] else []
theorem onK_len (ms xs : List Int) (k : Nat) : (onK ms xs k).length = up ms k := by
  induction k with
  | zero => rfl
  | succ k ih => unfold onK up; rw [List.length_append, ih]; split <;> rfl
theorem up_le (ms : List Int) (k : Nat) : up ms k ≤ k := by
  induction k with
  | zero => exact Nat.le_refl _
  | succ k ih => unfold up; split <;> omega
/-- The first lanes are those that are on; the others are 0. -/
def packK (ms xs : List Int) (n k : Nat) : List Int := onK ms xs k ++ List.replicate (n - up ms k) 0
def compress2 (b : Int) (ms xs : List Int) : List Int × Bool := ans (masked b ms xs) (packK ms xs xs.length xs.length)
def spreadF (ms xs : List Int) (i : Nat) : Int := if ms.getD i 0 = 1 then xs.getD (up ms i) 0 else 0
def expand2 (b : Int) (ms xs : List Int) : List Int × Bool := ans (masked b ms xs) (tab (spreadF ms xs) xs.length)
theorem packK_len (ms xs : List Int) (n k : Nat) (h : k ≤ n) : (packK ms xs n k).length = n := by
  unfold packK; rw [List.length_append, onK_len, List.length_replicate]; have := up_le ms k; omega
theorem packK_zero (ms xs : List Int) (n : Nat) : packK ms xs n 0 = List.replicate n 0 := by simp [packK, onK, up]
theorem packK_on {ms xs : List Int} {n k : Nat} (h : k < n) (h1 : ms.getD k 0 = 1) : (packK ms xs n k).set (up ms k) (xs.getD k 0) = packK ms xs n (k + 1) := by
  have hu := up_le ms k
  unfold packK
  rw [List.set_append_right _ _ (by rw [onK_len]; exact Nat.le_refl _), onK_len, Nat.sub_self]
  obtain ⟨m, hm⟩ : ∃ m, n - up ms k = m + 1 := ⟨n - up ms k - 1, by omega⟩
  have hs : up ms (k + 1) = up ms k + 1 := by show up ms k + (if _ then 1 else 0) = _; rw [if_pos h1]
  have ho : onK ms xs (k + 1) = onK ms xs k ++ [xs.getD k 0] := by show onK ms xs k ++ (if _ then _ else _) = _; rw [if_pos h1]
  have hm' : n - up ms (k + 1) = m := by omega
  rw [hm, hm', ho, List.replicate_succ, List.set_cons_zero, List.append_assoc]
  rfl
theorem packK_off {ms xs : List Int} {n k : Nat} (h1 : ms.getD k 0 ≠ 1) : packK ms xs n (k + 1) = packK ms xs n k := by
  unfold packK
  have hs : up ms (k + 1) = up ms k := by show up ms k + (if _ then 1 else 0) = _; rw [if_neg h1]; rfl
  have ho : onK ms xs (k + 1) = onK ms xs k := by show onK ms xs k ++ (if _ then _ else _) = _; rw [if_neg h1, List.append_nil]
  rw [hs, ho]
theorem up_on {ms : List Int} {k : Nat} (h1 : ms.getD k 0 = 1) : up ms (k + 1) = up ms k + 1 := by show up ms k + (if _ then 1 else 0) = _; rw [if_pos h1]
theorem up_off {ms : List Int} {k : Nat} (h1 : ms.getD k 0 ≠ 1) : up ms (k + 1) = up ms k := by show up ms k + (if _ then 1 else 0) = _; rw [if_neg h1]; rfl
theorem onK_on {ms xs : List Int} {k : Nat} (h1 : ms.getD k 0 = 1) : onK ms xs (k + 1) = onK ms xs k ++ [xs.getD k 0] := by show onK ms xs k ++ (if _ then _ else _) = _; rw [if_pos h1]
theorem onK_off {ms xs : List Int} {k : Nat} (h1 : ms.getD k 0 ≠ 1) : onK ms xs (k + 1) = onK ms xs k := by show onK ms xs k ++ (if _ then _ else _) = _; rw [if_neg h1, List.append_nil]
theorem spread_on {ms xs : List Int} {k : Nat} (h1 : ms.getD k 0 = 1) : spreadF ms xs k = xs.getD (up ms k) 0 := if_pos h1
theorem spread_off {ms xs : List Int} {k : Nat} (h1 : ms.getD k 0 ≠ 1) : spreadF ms xs k = 0 := if_neg h1
end Ln
