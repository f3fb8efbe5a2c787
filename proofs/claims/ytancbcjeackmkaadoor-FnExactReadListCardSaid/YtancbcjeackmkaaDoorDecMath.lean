/-
  The decimal text of a number, built from its last digit on: what each round of the model's loop keeps (no program).
-/
import Derived.Lib.ItoaNum
namespace Wd
open Go.Lib
def dcF (m : Nat) (o : List UInt8) : List UInt8 := if m = 0 ∧ o ≠ [] then o else decDigits m ++ o
theorem dcF_start (m : Nat) : dcF m [] = decDigits m := by unfold dcF; simp
theorem dcF_end {o : List UInt8} (h : o ≠ []) : dcF 0 o = o := by unfold dcF; simp [h]
theorem dcF_step {m : Nat} {o : List UInt8} (h : ¬ (m = 0 ∧ o ≠ [])) : dcF (m / 10) (UInt8.ofNat (48 + m % 10) :: o) = dcF m o := by
  unfold dcF
  rw [if_neg h]
  by_cases h10 : m / 10 = 0
  · rw [if_pos ⟨h10, by simp⟩]
    have : m < 10 := by omega
    rw [decDigits, dif_pos this, Nat.mod_eq_of_lt this]
    rfl
  · rw [if_neg (by simp [h10])]
    conv => rhs; rw [decDigits, dif_neg (show ¬ m < 10 by omega)]
    simp
theorem dc_digit (r : Int) : (if r.tmod 10 < 0 then -(r.tmod 10) else r.tmod 10) = ((r.natAbs % 10 : Nat) : Int) := by
  obtain ⟨m, h⟩ := Int.eq_nat_or_neg r
  rcases h with rfl | rfl
  · rw [Int.natAbs_natCast, show (10 : Int) = ((10 : Nat) : Int) from rfl, ← Int.ofNat_tmod]
    rw [if_neg (by omega)]
  · rw [Int.natAbs_neg, Int.natAbs_natCast, Int.neg_tmod, show (10 : Int) = ((10 : Nat) : Int) from rfl, ← Int.ofNat_tmod]
    split <;> omega
theorem dc_rest (r : Int) : (r.tdiv 10).natAbs = r.natAbs / 10 := by
  rw [Int.natAbs_tdiv]; rfl
end Wd
