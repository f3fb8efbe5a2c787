/-
  The small bitwise facts of the operations on words held in 8 or 16 bits: masks, the flipped highest bit, the mean.
-/
import Derived.Test.YtigodbilfjppbaaGreatDoorBits
namespace Go.Proofs.YtigodbilfjppbaaGreatDoor.Opm
open Go

def fl (b x : Int) : Int := if x < Wd.hf b then x + Wd.hf b else x - Wd.hf b
theorem u8_and255 (x : Int) (h0 : 0 ≤ x) (h1 : x < 256) : bits .and .u8 x 255 = x := by
  have := bits_mask .u8 8 (by decide) wraps_u8 8 (by decide) x h0 (by omega)
  rw [show (255 : Int) = 2 ^ 8 - 1 from by decide, this]; omega
theorem u16_and65535 (x : Int) (h0 : 0 ≤ x) (h1 : x < 65536) : bits .and .u16 x 65535 = x := by
  have := bits_mask .u16 16 (by decide) Bts.wraps_u16 16 (by decide) x h0 (by omega)
  rw [show (65535 : Int) = 2 ^ 16 - 1 from by decide, this]; omega
theorem and_cut8 (b x : Int) (h : b = 4 ∨ b = 8) (h0 : 0 ≤ x) (h1 : x < 256) : bits .and .u8 x (Wd.pw b - 1) = x % Wd.pw b := by
  rcases h with rfl | rfl
  · exact u8_and15 x h0 h1
  · show bits .and .u8 x 255 = x % 256
    rw [u8_and255 x h0 h1]; omega
theorem and_cut16 (b x : Int) (h : 16 ≤ b ∧ b ≤ 16) (h0 : 0 ≤ x) (h1 : x < 65536) : bits .and .u16 x (Wd.pw b - 1) = x % Wd.pw b := by
  obtain rfl : b = 16 := by omega
  show bits .and .u16 x 65535 = x % 65536
  rw [u16_and65535 x h0 h1]; omega
theorem xor_half_int (x : Int) (k : Nat) (h0 : 0 ≤ x) (h1 : x < ((2 ^ (k + 1) : Nat) : Int)) : ((x.toNat ^^^ 2 ^ k : Nat) : Int) = if x < ((2 ^ k : Nat) : Int) then x + ((2 ^ k : Nat) : Int) else x - ((2 ^ k : Nat) : Int) := by
  obtain ⟨a, rfl⟩ := Int.eq_ofNat_of_zero_le h0
  have h1' : a < 2 ^ (k + 1) := by exact_mod_cast h1
  rw [Int.toNat_natCast, Wd.xor_half a k h1']
  have hp : 2 ^ (k + 1) = 2 ^ k + 2 ^ k := by rw [Nat.pow_succ]; omega
  by_cases hl : a < 2 ^ k
  · rw [if_pos hl, if_pos (by exact_mod_cast hl)]; omega
  · rw [if_neg hl, if_neg (by omega)]; omega
theorem xor_flip8 (b x : Int) (h : b = 4 ∨ b = 8) (h0 : 0 ≤ x) (h1 : x < Wd.pw b) : bits .xor .u8 x (Wd.hf b) = fl b x := by
  rcases h with rfl | rfl
  · have h1' : x < 16 := h1
    rw [(Bts.three_u8 x (Wd.hf 4) h0 (by omega) (by decide) (by decide)).2.2]; exact xor_half_int x 3 h0 h1'
  · have h1' : x < 256 := h1
    rw [(Bts.three_u8 x (Wd.hf 8) h0 (by omega) (by decide) (by decide)).2.2]; exact xor_half_int x 7 h0 h1'
theorem xor_flip16 (b x : Int) (h : 16 ≤ b ∧ b ≤ 16) (h0 : 0 ≤ x) (h1 : x < Wd.pw b) : bits .xor .u16 x (Wd.hf b) = fl b x := by
  obtain rfl : b = 16 := by omega
  have h1' : x < 65536 := h1
  rw [(Bts.three_u16 x (Wd.hf 16) h0 (by omega) (by decide) (by decide)).2.2]; exact xor_half_int x 15 h0 h1'
theorem fl_bd (b x : Int) (h : Wd.IsBits b) (h0 : 0 ≤ x) (h1 : x < Wd.pw b) : 0 ≤ fl b x ∧ fl b x < Wd.pw b := by
  rcases Wd.bits_cases h with ⟨_, h2, h3⟩ | ⟨_, h2, h3⟩ | ⟨_, h2, h3⟩ <;> (rw [h2] at h1 ⊢; simp only [fl, h3]; omega)
theorem wrap_u8 (n : Int) : IntKind.u8.wrap n = n % 256 := IntKind.wrap_u8 n
theorem wrap_u16 (n : Int) : IntKind.u16.wrap n = n % 65536 := by simp [IntKind.wrap, IntKind.bits, IntKind.signed]
theorem mod_u8 (b n : Int) (h : b = 4 ∨ b = 8) : n % 256 % Wd.pw b = Wd.wr b n := by
  rcases h with rfl | rfl
  · show n % 256 % 16 = n % 16
    omega
  · show n % 256 % 256 = n % 256
    omega
theorem mod_u16 (b n : Int) (h : 16 ≤ b ∧ b ≤ 16) : n % 65536 % Wd.pw b = Wd.wr b n := by
  obtain rfl : b = 16 := by omega
  show n % 65536 % 65536 = n % 65536
  omega
theorem fl_fl (b x : Int) (h : Wd.IsBits b) (h0 : 0 ≤ x) (h1 : x < Wd.pw b) : fl b (fl b x) = x := by
  rcases Wd.bits_cases h with ⟨_, h2, h3⟩ | ⟨_, h2, h3⟩ | ⟨_, h2, h3⟩ <;> (rw [h2] at h1; simp only [fl, h3]; omega)
theorem fl_le (b x y : Int) (h : Wd.IsBits b) (hx : 0 ≤ x ∧ x < Wd.pw b) (hy : 0 ≤ y ∧ y < Wd.pw b) : fl b x ≤ fl b y ↔ Wd.sg b x ≤ Wd.sg b y := by
  rcases Wd.bits_cases h with ⟨_, h2, h3⟩ | ⟨_, h2, h3⟩ | ⟨_, h2, h3⟩ <;> (rw [h2] at hx hy; simp only [fl, Wd.sg, h2, h3]; omega)
theorem sg_inj (b x y : Int) (h : Wd.IsBits b) (hx : 0 ≤ x ∧ x < Wd.pw b) (hy : 0 ≤ y ∧ y < Wd.pw b) (e : Wd.sg b x = Wd.sg b y) : x = y := by
  rcases Wd.bits_cases h with ⟨_, h2, h3⟩ | ⟨_, h2, h3⟩ | ⟨_, h2, h3⟩ <;> (rw [h2] at hx hy; simp only [Wd.sg, h2, h3] at e; omega)
theorem fin8 (b x y : Int) (h : Wd.IsBits b) (hx : 0 ≤ x ∧ x < Wd.pw b) (hy : 0 ≤ y ∧ y < Wd.pw b) (r : Int) (hr : (r = fl b (fl b x) ∧ fl b x ≤ fl b y) ∨ (r = fl b (fl b y) ∧ fl b y ≤ fl b x)) : r = Wd.doOp 8 b x y := by
  simp only [Wd.doOp, reduceIte, Int.reduceEq]
  rcases hr with ⟨rfl, hh⟩ | ⟨rfl, hh⟩
  · rw [fl_fl b x h hx.1 hx.2]
    have := (fl_le b x y h hx hy).1 hh
    by_cases e : Wd.sg b x = Wd.sg b y
    · have := sg_inj b x y h hx hy e; subst this; simp
    · rw [if_pos (by omega)]
  · rw [fl_fl b y h hy.1 hy.2]
    have := (fl_le b y x h hy hx).1 hh
    rw [if_neg (by omega)]
theorem fin9 (b x y : Int) (h : Wd.IsBits b) (hx : 0 ≤ x ∧ x < Wd.pw b) (hy : 0 ≤ y ∧ y < Wd.pw b) (r : Int) (hr : (r = fl b (fl b x) ∧ fl b y ≤ fl b x) ∨ (r = fl b (fl b y) ∧ fl b x ≤ fl b y)) : r = Wd.doOp 9 b x y := by
  simp only [Wd.doOp, reduceIte, Int.reduceEq]
  rcases hr with ⟨rfl, hh⟩ | ⟨rfl, hh⟩
  · rw [fl_fl b x h hx.1 hx.2]
    have := (fl_le b y x h hy hx).1 hh
    rw [if_neg (by omega)]
  · rw [fl_fl b y h hy.1 hy.2]
    have := (fl_le b x y h hx hy).1 hh
    by_cases e : Wd.sg b x = Wd.sg b y
    · have := sg_inj b x y h hx hy e; subst this; simp
    · rw [if_pos (by omega)]
theorem wlo_u8 (n : Int) : 0 ≤ IntKind.u8.wrap n := by rw [wrap_u8]; omega
theorem whi_u8 (n : Int) : IntKind.u8.wrap n < 256 := by rw [wrap_u8]; omega
theorem wlo_u16 (n : Int) : 0 ≤ IntKind.u16.wrap n := by rw [wrap_u16]; omega
theorem whi_u16 (n : Int) : IntKind.u16.wrap n < 65536 := by rw [wrap_u16]; omega
theorem fin0_8 (b x y : Int) (h : b = 4 ∨ b = 8) (_hx : 0 ≤ x ∧ x < Wd.pw b) (_hy : 0 ≤ y ∧ y < Wd.pw b) : (x + y) % 256 % Wd.pw b = Wd.doOp 0 b x y := mod_u8 b _ h
theorem fin1_8 (b x y : Int) (h : b = 4 ∨ b = 8) (_hx : 0 ≤ x ∧ x < Wd.pw b) (_hy : 0 ≤ y ∧ y < Wd.pw b) : (x - y) % 256 % Wd.pw b = Wd.doOp 1 b x y := mod_u8 b _ h
theorem fin2_8 (b x y : Int) (h : b = 4 ∨ b = 8) (_hx : 0 ≤ x ∧ x < Wd.pw b) (_hy : 0 ≤ y ∧ y < Wd.pw b) : (x * y) % 256 % Wd.pw b = Wd.doOp 2 b x y := mod_u8 b _ h
theorem fin0_16 (b x y : Int) (h : 16 ≤ b ∧ b ≤ 16) (_hx : 0 ≤ x ∧ x < Wd.pw b) (_hy : 0 ≤ y ∧ y < Wd.pw b) : (x + y) % 65536 % Wd.pw b = Wd.doOp 0 b x y := mod_u16 b _ h
theorem fin1_16 (b x y : Int) (h : 16 ≤ b ∧ b ≤ 16) (_hx : 0 ≤ x ∧ x < Wd.pw b) (_hy : 0 ≤ y ∧ y < Wd.pw b) : (x - y) % 65536 % Wd.pw b = Wd.doOp 1 b x y := mod_u16 b _ h
theorem fin2_16 (b x y : Int) (h : 16 ≤ b ∧ b ≤ 16) (_hx : 0 ≤ x ∧ x < Wd.pw b) (_hy : 0 ≤ y ∧ y < Wd.pw b) : (x * y) % 65536 % Wd.pw b = Wd.doOp 2 b x y := mod_u16 b _ h
theorem pw8 {b : Int} (h : b = 4 ∨ b = 8) : Wd.pw b ≤ 256 := by rcases h with rfl | rfl <;> decide
theorem pw16 {b : Int} (h : 16 ≤ b ∧ b ≤ 16) : Wd.pw b ≤ 65536 := by
  obtain rfl : b = 16 := by omega
  decide
theorem fin3_8 (b x y : Int) (h : b = 4 ∨ b = 8) (hx : 0 ≤ x ∧ x < Wd.pw b) (hy : 0 ≤ y ∧ y < Wd.pw b) : bits .and .u8 x y = Wd.doOp 3 b x y := (Bts.three_u8 x y hx.1 (by have := pw8 h; omega) hy.1 (by have := pw8 h; omega)).1
theorem fin4_8 (b x y : Int) (h : b = 4 ∨ b = 8) (hx : 0 ≤ x ∧ x < Wd.pw b) (hy : 0 ≤ y ∧ y < Wd.pw b) : bits .or .u8 x y = Wd.doOp 4 b x y := (Bts.three_u8 x y hx.1 (by have := pw8 h; omega) hy.1 (by have := pw8 h; omega)).2.1
theorem fin5_8 (b x y : Int) (h : b = 4 ∨ b = 8) (hx : 0 ≤ x ∧ x < Wd.pw b) (hy : 0 ≤ y ∧ y < Wd.pw b) : bits .xor .u8 x y = Wd.doOp 5 b x y := (Bts.three_u8 x y hx.1 (by have := pw8 h; omega) hy.1 (by have := pw8 h; omega)).2.2
theorem fin3_16 (b x y : Int) (h : 16 ≤ b ∧ b ≤ 16) (hx : 0 ≤ x ∧ x < Wd.pw b) (hy : 0 ≤ y ∧ y < Wd.pw b) : bits .and .u16 x y = Wd.doOp 3 b x y := (Bts.three_u16 x y hx.1 (by have := pw16 h; omega) hy.1 (by have := pw16 h; omega)).1
theorem fin4_16 (b x y : Int) (h : 16 ≤ b ∧ b ≤ 16) (hx : 0 ≤ x ∧ x < Wd.pw b) (hy : 0 ≤ y ∧ y < Wd.pw b) : bits .or .u16 x y = Wd.doOp 4 b x y := (Bts.three_u16 x y hx.1 (by have := pw16 h; omega) hy.1 (by have := pw16 h; omega)).2.1
theorem fin5_16 (b x y : Int) (h : 16 ≤ b ∧ b ≤ 16) (hx : 0 ≤ x ∧ x < Wd.pw b) (hy : 0 ≤ y ∧ y < Wd.pw b) : bits .xor .u16 x y = Wd.doOp 5 b x y := (Bts.three_u16 x y hx.1 (by have := pw16 h; omega) hy.1 (by have := pw16 h; omega)).2.2
theorem avg_int (x y : Int) (hx : 0 ≤ x) (hy : 0 ≤ y) : ((x.toNat ||| y.toNat : Nat) : Int) - ((x.toNat ^^^ y.toNat : Nat) : Int) / 2 = (x + y + 1) / 2 := by
  have h := Wd.avg_nat x.toNat y.toNat
  omega
theorem fin14_8 (b x y : Int) (h : b = 4 ∨ b = 8) (hx : 0 ≤ x ∧ x < Wd.pw b) (hy : 0 ≤ y ∧ y < Wd.pw b) : (bits .or .u8 x y - bits .xor .u8 x y / 2) % 256 = Wd.doOp 14 b x y := by
  have hp := pw8 h
  have t := Bts.three_u8 x y hx.1 (by omega) hy.1 (by omega)
  rw [t.2.1, t.2.2, avg_int x y hx.1 hy.1]
  simp only [Wd.doOp, reduceIte, Int.reduceEq]; omega
theorem fin14_16 (b x y : Int) (h : 16 ≤ b ∧ b ≤ 16) (hx : 0 ≤ x ∧ x < Wd.pw b) (hy : 0 ≤ y ∧ y < Wd.pw b) : (bits .or .u16 x y - bits .xor .u16 x y / 2) % 65536 = Wd.doOp 14 b x y := by
  have hp := pw16 h
  have t := Bts.three_u16 x y hx.1 (by omega) hy.1 (by omega)
  rw [t.2.1, t.2.2, avg_int x y hx.1 hy.1]
  simp only [Wd.doOp, reduceIte, Int.reduceEq]; omega
theorem fin15_8 (b x y : Int) (h : b = 4 ∨ b = 8) (_hx : 0 ≤ x ∧ x < Wd.pw b) (_hy : 0 ≤ y ∧ y < Wd.pw b) : IntKind.u8.wrap (x * 2 ^ (y % b).toNat) % Wd.pw b = Wd.doOp 15 b x y := by rw [wrap_u8]; exact mod_u8 b _ h
theorem fin15_16 (b x y : Int) (h : 16 ≤ b ∧ b ≤ 16) (_hx : 0 ≤ x ∧ x < Wd.pw b) (_hy : 0 ≤ y ∧ y < Wd.pw b) : IntKind.u16.wrap (x * 2 ^ (y % b).toNat) % Wd.pw b = Wd.doOp 15 b x y := by rw [wrap_u16]; exact mod_u16 b _ h
theorem fin16_8 (b x y : Int) (_h : b = 4 ∨ b = 8) (_hx : 0 ≤ x ∧ x < Wd.pw b) (_hy : 0 ≤ y ∧ y < Wd.pw b) : x / 2 ^ (y % b).toNat = Wd.doOp 16 b x y := rfl
theorem fin16_16 (b x y : Int) (_h : 16 ≤ b ∧ b ≤ 16) (_hx : 0 ≤ x ∧ x < Wd.pw b) (_hy : 0 ≤ y ∧ y < Wd.pw b) : x / 2 ^ (y % b).toNat = Wd.doOp 16 b x y := rfl
theorem fin17_8 (b x y : Int) (h : b = 4 ∨ b = 8) (_hx : 0 ≤ x ∧ x < Wd.pw b) (_hy : 0 ≤ y ∧ y < Wd.pw b) : IntKind.u8.wrap (Wd.sg b x / 2 ^ (y % b).toNat) % Wd.pw b = Wd.doOp 17 b x y := by rw [wrap_u8]; exact mod_u8 b _ h
theorem fin17_16 (b x y : Int) (h : 16 ≤ b ∧ b ≤ 16) (_hx : 0 ≤ x ∧ x < Wd.pw b) (_hy : 0 ≤ y ∧ y < Wd.pw b) : IntKind.u16.wrap (Wd.sg b x / 2 ^ (y % b).toNat) % Wd.pw b = Wd.doOp 17 b x y := by rw [wrap_u16]; exact mod_u16 b _ h
end Go.Proofs.YtigodbilfjppbaaGreatDoor.Opm
