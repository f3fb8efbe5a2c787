/-
  Sets of small numbers as bits of an unsigned number of 32 bits: the operations of the code on them: one contract each.
-/
import Derived.Test.YtfmplneopmbfoaaLstW
import Derived.Test.YtfmplneopmbfoaaBits
import Derived.Test.YtfmplneopmbfoaaWords
import Derived.Test.YtfmplneopmbfoaaScM
import Derived.Test.YtfmplneopmbfoaaVecW
namespace Go.Proofs.Ytfmplneopmbfoaa.Wds
open Go.RowKit
set_option linter.unusedVariables false

theorem wraps_u32 (n : Int) (h₀ : 0 ≤ n) (h₁ : n < 2 ^ 32) : IntKind.u32.wrap n = n := by rw [IntKind.wrap_u32]; omega
theorem u32_or (a b : Nat) (ha : a < 4294967296) (hb : b < 4294967296) : bits .or .u32 (a : Int) (b : Int) = ((a ||| b : Nat) : Int) := (bits_nat .u32 32 (by decide) wraps_u32 a b ha hb).2
theorem u32_and (a b : Nat) (ha : a < 4294967296) (hb : b < 4294967296) : bits .and .u32 (a : Int) (b : Int) = ((a &&& b : Nat) : Int) := (bits_nat .u32 32 (by decide) wraps_u32 a b ha hb).1
theorem u32_andNot (a b : Nat) (ha : a < 4294967296) (hb : b < 4294967296) : bits .andNot .u32 (a : Int) (b : Int) = ((Sc.diff a b : Nat) : Int) := by
  have ha' : a % 2 ^ 32 = a := Nat.mod_eq_of_lt ha
  have hb' : b % 2 ^ 32 = b := Nat.mod_eq_of_lt hb
  have e : (BitVec.ofNat 32 a &&& ~~~ BitVec.ofNat 32 b).toNat = Sc.diff a b := by
    refine Nat.eq_of_testBit_eq fun i => ?_
    rw [Sc.tb_diff, BitVec.testBit_toNat, BitVec.getLsbD_and, BitVec.getLsbD_not, BitVec.getLsbD_ofNat, BitVec.getLsbD_ofNat]
    by_cases hi : i < 32
    · simp [hi]
    · have : a.testBit i = false := Nat.testBit_lt_two_pow (Nat.lt_of_lt_of_le ha (Nat.pow_le_pow_right (n := 2) (i := 32) (by decide) (by omega)))
      simp [this]
  show IntKind.u32.wrap (((BitVec.ofInt 32 (a : Int) &&& ~~~ BitVec.ofInt 32 (b : Int)).toNat : Nat) : Int) = _
  rw [BitVec.ofInt_natCast, BitVec.ofInt_natCast, e]
  have h := Sc.diff_lt (b := b) ha
  exact wraps_u32 _ (by omega) (by omega)
theorem pow_u32 (k : Nat) (h : k ≤ 31) : (2 : Int) ^ k % 4294967296 = ((2 ^ k : Nat) : Int) := by
  have := Sc.pow_lt h
  rw [show (2 : Int) ^ k = ((2 ^ k : Nat) : Int) by simp]
  exact Int.emod_eq_of_lt (Int.natCast_nonneg _) (by omega)
theorem withN_any (s k : Nat) (w : World) (hs : s < 4294967296) (hk : k ≤ 31) : Calls Try.prog 59 #[.int .u32 (s : Int), .int .i64 (k : Int)] w fun e w' => e = .returned (.int .u32 ((s ||| 2 ^ k : Nat) : Int)) ∧ w = w' := by
  go_enter Try.func59, Try.ntmps59
  go_wp2
  go_ret
  refine ⟨ret_int ?_, rfl⟩
  rw [pow_u32 k hk]
  exact u32_or s (2 ^ k) hs (Sc.pow_lt hk)
theorem with_any (s : Nat) (k : Int) (w : World) (hs : s < 4294967296) (h0 : 0 ≤ k) (hk : k ≤ 31) : Calls Try.prog 59 #[.int .u32 (s : Int), .int .i64 k] w fun e w' => e = .returned (.int .u32 ((s ||| Sc.bt k : Nat) : Int)) ∧ w = w' := by
  obtain ⟨n, rfl⟩ := Int.eq_ofNat_of_zero_le h0
  exact withN_any s n w hs (by omega)
theorem with0_any (k : Int) (w : World) (h0 : 0 ≤ k) (hk : k ≤ 31) : Calls Try.prog 59 #[.int .u32 0, .int .i64 k] w fun e w' => e = .returned (.int .u32 ((Sc.bt k : Nat) : Int)) ∧ w = w' := by
  have := with_any 0 k w (by decide) h0 hk
  rw [Nat.zero_or] at this
  exact this
theorem with_below (s : Nat) (k : Int) (w : World) (hs : s < 4294967296) (h0 : 0 ≤ k) (hk : k ≤ 31) : Calls Try.prog 59 #[.int .u32 (s : Int), .int .i64 k] w fun e w' => e = .returned (.int .u32 ((s ||| Sc.bt k : Nat) : Int)) ∧ Below w.heap.size w w' :=
  (with_any s k w hs h0 hk).mono fun e w' h => ⟨h.1, by rw [← h.2]; exact Below.refl _ _⟩
theorem with0_below (k : Int) (w : World) (h0 : 0 ≤ k) (hk : k ≤ 31) : Calls Try.prog 59 #[.int .u32 0, .int .i64 k] w fun e w' => e = .returned (.int .u32 ((Sc.bt k : Nat) : Int)) ∧ Below w.heap.size w w' :=
  (with0_any k w h0 hk).mono fun e w' h => ⟨h.1, by rw [← h.2]; exact Below.refl _ _⟩
theorem bit_and (s k : Nat) : (s &&& 2 ^ k == 0) = !s.testBit k := by
  rw [Bool.eq_iff_iff, beq_iff_eq, Sc.and_pow_eq_zero]; cases s.testBit k <;> simp
theorem hasN_any (s k : Nat) (w : World) (hs : s < 4294967296) (hk : k ≤ 31) : Calls Try.prog 87 #[.int .u32 (s : Int), .int .i64 (k : Int)] w fun e w' => e = .returned (.bool (s.testBit k)) ∧ w = w' := by
  obtain ⟨m, hm⟩ : ∃ m, m = s &&& 2 ^ k := ⟨_, rfl⟩
  have hb : bits .and .u32 (s : Int) ((2 : Int) ^ k % 4294967296) = (m : Int) := by
    rw [pow_u32 k hk, hm]; exact u32_and s (2 ^ k) hs (Sc.pow_lt hk)
  have ht := bit_and s k
  rw [← hm] at ht
  generalize s.testBit k = r at ht ⊢
  clear hm
  cases r
  · have h0 : m = 0 := by simpa using ht
    subst h0
    clear ht
    have hb' : bits .and .u32 (s : Int) ((2 : Int) ^ k % 4294967296) = 0 := hb
    clear hb
    go_enter Try.func87, Try.ntmps87
    go_wp2
    go_ret
    exact ⟨ret_bool (by simp), rfl⟩
  · have h0 : ¬ m = 0 := by simpa using ht
    clear ht
    go_enter Try.func87, Try.ntmps87
    go_wp2
    go_ret
    exact ⟨ret_bool (by simp [bne]; omega), rfl⟩
end Go.Proofs.Ytfmplneopmbfoaa.Wds
