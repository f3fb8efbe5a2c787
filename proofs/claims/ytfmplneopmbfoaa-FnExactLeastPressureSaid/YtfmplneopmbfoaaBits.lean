/-
  The bitwise operations of Go's integers as the model has them, at the numbers that occur here: masks of 4, 8 and 16 bits, and words of 8 and 16 bits.
-/
import Derived.Laws.BitsLemmas
import Derived.Laws.Bits128
import Derived.Test.YtfmplneopmbfoaaMath
namespace Go.Proofs.Ytfmplneopmbfoaa.Bts
open Go

theorem i64_mask (j : Nat) (hj : j ≤ 62) (n : Int) : bits .and .i64 n ((2 ^ j - 1 : Nat) : Int) = n % ((2 ^ j : Nat) : Int) := by
  have hp : 2 ^ j ∣ 2 ^ 64 := Nat.pow_dvd_pow 2 (by omega)
  have hle : 2 ^ j ≤ 2 ^ 62 := Nat.pow_le_pow_right (by decide) hj
  have h0 : 0 < 2 ^ j := Nat.two_pow_pos j
  have hm : (BitVec.ofInt 64 ((2 ^ j - 1 : Nat) : Int)).toNat = 2 ^ j - 1 := by
    rw [BitVec.ofInt_natCast, BitVec.toNat_ofNat]; exact Nat.mod_eq_of_lt (by omega)
  have key : (BitVec.ofInt 64 n &&& BitVec.ofInt 64 ((2 ^ j - 1 : Nat) : Int)).toNat = (n % ((2 ^ 64 : Nat) : Int)).toNat % 2 ^ j := by
    rw [BitVec.toNat_and, BitVec.toNat_ofInt, hm, Nat.and_two_pow_sub_one_eq_mod]
  show IntKind.i64.wrap ((BitVec.ofInt 64 n &&& BitVec.ofInt 64 ((2 ^ j - 1 : Nat) : Int)).toNat : Nat) = _
  rw [key, IntKind.wrap_i64]
  have e1 : (((n % ((2 ^ 64 : Nat) : Int)).toNat % 2 ^ j : Nat) : Int) = n % ((2 ^ j : Nat) : Int) := by
    rw [Int.natCast_emod, Int.toNat_of_nonneg (Int.emod_nonneg _ (by decide))]
    exact Int.emod_emod_of_dvd _ (by exact_mod_cast hp)
  rw [e1]
  have l1 := Int.emod_nonneg n (b := ((2 ^ j : Nat) : Int)) (by omega)
  have l2 := Int.emod_lt_of_pos n (b := ((2 ^ j : Nat) : Int)) (by omega)
  have l3 : ((2 ^ j : Nat) : Int) ≤ ((4611686018427387904 : Nat) : Int) := Int.ofNat_le.2 (Nat.le_trans hle (by decide))
  omega
theorem i64_and15 (n : Int) : bits .and .i64 n 15 = n % 16 := i64_mask 4 (by decide) n
theorem i64_and255 (n : Int) : bits .and .i64 n 255 = n % 256 := i64_mask 8 (by decide) n
theorem i64_and65535 (n : Int) : bits .and .i64 n 65535 = n % 65536 := i64_mask 16 (by decide) n
theorem i64_wr (b n : Int) (h : Wd.IsBits b) : bits .and .i64 n (Wd.pw b - 1) = Wd.wr b n := by
  rcases h with rfl | rfl | rfl
  · exact i64_and15 n
  · exact i64_and255 n
  · exact i64_and65535 n
theorem bits_xor_nat (k : IntKind) (j : Nat) (hj : j ≤ k.bits) (hk : ∀ n : Int, 0 ≤ n → n < 2 ^ j → k.wrap n = n) (a b : Nat) (ha : a < 2 ^ j) (hb : b < 2 ^ j) :
    bits .xor k a b = ((a ^^^ b : Nat) : Int) := by
  have hp : 2 ^ j ≤ 2 ^ k.bits := Nat.pow_le_pow_right (by decide) hj
  have ha' : a % 2 ^ k.bits = a := Nat.mod_eq_of_lt (Nat.lt_of_lt_of_le ha hp)
  have hb' : b % 2 ^ k.bits = b := Nat.mod_eq_of_lt (Nat.lt_of_lt_of_le hb hp)
  have cast : ∀ n : Nat, n < 2 ^ j → ((n : Nat) : Int) < 2 ^ j := fun n h => by exact_mod_cast h
  simp only [bits, BitVec.ofInt_natCast, BitVec.toNat_xor, BitVec.toNat_ofNat, ha', hb']
  exact hk _ (Int.natCast_nonneg _) (cast _ (Nat.xor_lt_two_pow ha hb))
theorem wraps_u16 (n : Int) (h₀ : 0 ≤ n) (h₁ : n < 2 ^ 16) : IntKind.u16.wrap n = n := by
  have : IntKind.u16.wrap n = n % 65536 := by simp [IntKind.wrap, IntKind.bits, IntKind.signed]
  rw [this]; omega
theorem wraps_i64 (n : Int) (h₀ : 0 ≤ n) (h₁ : n < 2 ^ 62) : IntKind.i64.wrap n = n := by rw [IntKind.wrap_i64]; omega
/-- 'and', 'or', 'xor' of two numbers that fit are those of their natural numbers. -/
theorem three (k : IntKind) (j : Nat) (hj : j ≤ k.bits) (hk : ∀ n : Int, 0 ≤ n → n < 2 ^ j → k.wrap n = n) (a b : Int) (ha0 : 0 ≤ a) (ha : a < 2 ^ j) (hb0 : 0 ≤ b) (hb : b < 2 ^ j) :
    bits .and k a b = ((a.toNat &&& b.toNat : Nat) : Int) ∧ bits .or k a b = ((a.toNat ||| b.toNat : Nat) : Int) ∧ bits .xor k a b = ((a.toNat ^^^ b.toNat : Nat) : Int) := by
  obtain ⟨m, rfl⟩ := Int.eq_ofNat_of_zero_le ha0
  obtain ⟨n, rfl⟩ := Int.eq_ofNat_of_zero_le hb0
  have h1 : m < 2 ^ j := by exact_mod_cast ha
  have h2 : n < 2 ^ j := by exact_mod_cast hb
  rw [Int.toNat_natCast, Int.toNat_natCast]
  exact ⟨(bits_nat k j hj hk m n h1 h2).1, (bits_nat k j hj hk m n h1 h2).2, bits_xor_nat k j hj hk m n h1 h2⟩
theorem three_u8 (a b : Int) (ha0 : 0 ≤ a) (ha : a < 256) (hb0 : 0 ≤ b) (hb : b < 256) :
    bits .and .u8 a b = ((a.toNat &&& b.toNat : Nat) : Int) ∧ bits .or .u8 a b = ((a.toNat ||| b.toNat : Nat) : Int) ∧ bits .xor .u8 a b = ((a.toNat ^^^ b.toNat : Nat) : Int) :=
  three .u8 8 (by decide) wraps_u8 a b ha0 (by omega) hb0 (by omega)
theorem three_u16 (a b : Int) (ha0 : 0 ≤ a) (ha : a < 65536) (hb0 : 0 ≤ b) (hb : b < 65536) :
    bits .and .u16 a b = ((a.toNat &&& b.toNat : Nat) : Int) ∧ bits .or .u16 a b = ((a.toNat ||| b.toNat : Nat) : Int) ∧ bits .xor .u16 a b = ((a.toNat ^^^ b.toNat : Nat) : Int) :=
  three .u16 16 (by decide) wraps_u16 a b ha0 (by omega) hb0 (by omega)
theorem three_i64 (a b : Int) (ha0 : 0 ≤ a) (ha : a < 65536) (hb0 : 0 ≤ b) (hb : b < 65536) :
    bits .and .i64 a b = ((a.toNat &&& b.toNat : Nat) : Int) ∧ bits .or .i64 a b = ((a.toNat ||| b.toNat : Nat) : Int) ∧ bits .xor .i64 a b = ((a.toNat ^^^ b.toNat : Nat) : Int) :=
  three .i64 62 (by decide) wraps_i64 a b ha0 (by omega) hb0 (by omega)
end Go.Proofs.Ytfmplneopmbfoaa.Bts
