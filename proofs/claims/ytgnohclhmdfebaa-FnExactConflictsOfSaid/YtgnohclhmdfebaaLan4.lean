/-
  Plain mathematics of conflicts: the sum of the powers of two of the lanes before that hold the same number.
-/
import Derived.Test.YtgnohclhmdfebaaLan2
namespace Ln
set_option linter.unusedVariables false

def cfK (zs : List Int) (x : Int) : Nat → Int
  | 0 => 0
  | k + 1 => cfK zs x k + if zs.getD k 0 = x then 2 ^ k else 0
def cf (zs : List Int) (i : Nat) : Int := cfK zs (zs.getD i 0) i
def conflicts (zs : List Int) : List Int × Bool := ans (vec 16 zs) (tab (cf zs) zs.length)
theorem cfK_bd (zs : List Int) (x : Int) (k : Nat) : 0 ≤ cfK zs x k ∧ cfK zs x k < 2 ^ k := by
  induction k with
  | zero => simp [cfK]
  | succ k ih =>
    unfold cfK
    have : (2 : Int) ^ (k + 1) = 2 ^ k + 2 ^ k := by rw [Int.pow_succ]; omega
    have hp : (0 : Int) < 2 ^ k := Int.pow_pos (by decide)
    split <;> omega
theorem cfK_yes {zs : List Int} {x : Int} {k : Nat} (h : zs.getD k 0 = x) : cfK zs x (k + 1) = cfK zs x k + 2 ^ k := by show cfK zs x k + (if _ then _ else _) = _; rw [if_pos h]
theorem cfK_no {zs : List Int} {x : Int} {k : Nat} (h : zs.getD k 0 ≠ x) : cfK zs x (k + 1) = cfK zs x k := by show cfK zs x k + (if _ then _ else _) = _; rw [if_neg h, Int.add_zero]
theorem pow_le16 {k : Nat} (h : k < 16) : (0 : Int) < 2 ^ k ∧ (2 : Int) ^ k ≤ 32768 := by
  have hp : (0 : Int) < 2 ^ k := Int.pow_pos (by decide)
  refine ⟨hp, ?_⟩
  have : (2 : Nat) ^ k ≤ 2 ^ 15 := Nat.pow_le_pow_right (by decide) (by omega)
  have h2 : ((2 ^ k : Nat) : Int) ≤ ((2 ^ 15 : Nat) : Int) := by exact_mod_cast this
  rw [Int.natCast_pow] at h2
  simpa using h2
end Ln
