/-
  Ranges that are kept while others are dropped one by one: the list of the kept ones, the number of the dropped ones. Plain mathematics.
-/
import Derived.Test.YtfmplneopmbfoaaDoorSpW
set_option linter.unusedVariables false
namespace Sp
open Rg
theorem keep_congr {rs : List R} {p q : Nat → Bool} {k : Nat} (h : ∀ j, j < k → p j = q j) : keep rs p k = keep rs q k := by
  induction k with
  | zero => rfl
  | succ k ih => rw [keep, keep, ih fun j hj => h j (by omega), h k (by omega)]
/-- Those that a set does not have. -/
def out (D : Nat) (j : Nat) : Bool := !D.testBit j
theorem drop_set {D k : Nat} (h : D < 2 ^ k) : D ||| 2 ^ k < 2 ^ (k + 1) := Nat.or_lt_two_pow (Nat.lt_of_lt_of_le h (Nat.pow_le_pow_right (by decide) (by omega))) (Nat.pow_lt_pow_right (by decide) (by omega))
theorem drop_bit (D k j : Nat) (h : j < k) : (D ||| 2 ^ k).testBit j = D.testBit j := by
  rw [Nat.testBit_or, Sc.tb_pow, decide_eq_false (by omega), Bool.or_false]
theorem drop_cnt {D k : Nat} : cnt (D ||| 2 ^ k).testBit (k + 1) = cnt D.testBit k + 1 := by
  rw [cnt, cnt_congr fun j hj => drop_bit D k j hj, Nat.testBit_or, Sc.tb_pow, decide_eq_true rfl, Bool.or_true, if_pos rfl]
theorem drop_keep (rs : List R) {D k : Nat} : keep rs (out (D ||| 2 ^ k)) (k + 1) = keep rs (out D) k := by
  rw [keep, out, Nat.testBit_or, Sc.tb_pow, decide_eq_true rfl, Bool.or_true, if_neg (by simp)]
  exact keep_congr fun j hj => by rw [out, out, drop_bit D k j hj]
theorem drop_out {D k : Nat} : cnt (out (D ||| 2 ^ k)) (k + 1) = cnt (out D) k := by
  rw [cnt, out, Nat.testBit_or, Sc.tb_pow, decide_eq_true rfl, Bool.or_true, if_neg (by simp)]
  rw [cnt_congr fun j hj => show out (D ||| 2 ^ k) j = out D j by rw [out, out, drop_bit D k j hj]]
  rfl
theorem stay_set {D k : Nat} (h : D < 2 ^ k) : D < 2 ^ (k + 1) := Nat.lt_of_lt_of_le h (Nat.pow_le_pow_right (by decide) (by omega))
theorem stay_cnt {D k : Nat} (h : D < 2 ^ k) : cnt D.testBit (k + 1) = cnt D.testBit k := by
  rw [cnt, Nat.testBit_lt_two_pow h, if_neg (by simp)]; rfl
theorem stay_keep (rs : List R) {D k : Nat} (h : D < 2 ^ k) : keep rs (out D) (k + 1) = keep rs (out D) k ++ [nth rs k] := by
  rw [keep, out, Nat.testBit_lt_two_pow h, if_pos (by rfl)]
theorem stay_out {D k : Nat} (h : D < 2 ^ k) : cnt (out D) (k + 1) = cnt (out D) k + 1 := by
  rw [cnt, out, Nat.testBit_lt_two_pow h, if_pos (by rfl)]
theorem yes_keep (rs : List R) {p : Nat → Bool} {k : Nat} (h : p k = true) : keep rs p (k + 1) = keep rs p k ++ [nth rs k] ∧ cnt p (k + 1) = cnt p k + 1 := by
  rw [keep, cnt, h, if_pos rfl, if_pos rfl]; exact ⟨rfl, rfl⟩
theorem no_keep (rs : List R) {p : Nat → Bool} {k : Nat} (h : p k = false) : keep rs p (k + 1) = keep rs p k ∧ cnt p (k + 1) = cnt p k := by
  rw [keep, cnt, h, if_neg (by simp), if_neg (by simp)]; exact ⟨rfl, rfl⟩
/-- Without the fewest spills the width fits. -/
theorem kept_le {rs : List R} {r : Int} (hr : 0 ≤ r) : (width (keep rs (out (top rs r)) rs.length) : Int) ≤ r := by
  have h1 := width_keep (rs := rs) (s := top rs r) (p := out (top rs r)) fun k hk => rfl
  have h2 : (wid rs (top rs r) rs.length : Int) ≤ r := of_decide_eq_true (top_ok hr)
  omega
/-- Without fewer it does not. -/
theorem other_gt {rs : List R} {r : Int} (hn : rs.length ≤ 32) {D : Nat} (hD : D < 2 ^ rs.length) (hl : cnt D.testBit rs.length < (fewest rs r).length) : r < (width (keep rs (out D) rs.length) : Int) := by
  have h1 := wid_keep (rs := rs) (s := D) (p := out D) fun k hk => rfl
  have h2 := top_few hn hD hl
  omega
theorem kept_cnt {rs : List R} (hn : rs.length ≤ 32) (r : Int) : cnt (out (top rs r)) rs.length + (fewest rs r).length = rs.length := few_len hn r
theorem has_out {rs : List R} (hn : rs.length ≤ 32) (r : Int) {k : Nat} (hk : k < rs.length) : (fewest rs r).contains (k : Int) = !out (top rs r) k := by
  rw [few_has hn r hk, out, Bool.not_not]
theorem fewest_if {rs : List R} {r : Int} (hv : valid rs = true) (h0 : 0 ≤ r) (h1 : r ≤ 12) : fewestOf rs r = (fewest rs r, true) := by
  have hr : isReg r = true := decide_eq_true ⟨h0, h1⟩
  rw [fewestOf, hv, hr, Bool.true_and, if_pos rfl]
end Sp
