/-
  The library's count of the ones of a number: it is the sum of its bits. One contract; the code's count of a set's members.
-/
import Derived.Test.YtfmplneopmbfoaaBlkU
import Derived.Test.YtfmplneopmbfoaaBelBy
import Derived.Test.YtfmplneopmbfoaaPrM
namespace Go.Proofs.Ytfmplneopmbfoaa.Wds
open Go.RowKit
set_option linter.unusedVariables false

/-- A table of 256 bytes that tells of each number the sum of its bits. -/
theorem tab_of {b : ByteArray} (hs : decide (256 ≤ b.size) = true) (h : ((List.range 256).all fun x => (b.data.toList.getD x 0).toNat == Rg.popB x) = true) (x : Nat) (hx : x < b.size) (hl : x < 256) : (b[x]'hx).toNat = Rg.popB x := by
  rw [List.all_eq_true] at h
  have := h x (List.mem_range.2 hl)
  rw [beq_iff_eq] at this
  rw [← this, List.getD_eq_getElem?_getD, List.getElem?_eq_getElem (by simpa using hx)]
  rfl
set_option maxRecDepth 100000 in
set_option maxHeartbeats 2000000 in
theorem onesP_any (s : Nat) (w : World) (hs : s < 4294967296) : Calls Try.prog 100 #[.int .u32 (s : Int)] w fun e w' => e = .returned (.int .i64 ((Rg.pop s : Nat) : Int)) ∧ Below w.heap.size w w' := by
  have k1 : 0 ≤ (s : Int) / 16777216 ∧ (s : Int) / 16777216 < 256 := by omega
  have mk : ∀ x : Nat, x < 4294967296 → bits .and .u32 (x : Int) 255 = ((x % 256 : Nat) : Int) := fun x hx => by
    have h := u32_and x 255 hx (by decide)
    rw [show x &&& 255 = x % 256 from Nat.and_two_pow_sub_one_eq_mod x 8] at h
    exact h
  have b2 := mk (s / 65536) (by omega)
  have b3 := mk (s / 256) (by omega)
  have b4 := mk s hs
  obtain ⟨x1, e1⟩ : ∃ z, z = s / 16777216 := ⟨_, rfl⟩
  obtain ⟨x2, e2⟩ : ∃ z, z = s / 65536 % 256 := ⟨_, rfl⟩
  obtain ⟨x3, e3⟩ : ∃ z, z = s / 256 % 256 := ⟨_, rfl⟩
  obtain ⟨x4, e4⟩ : ∃ z, z = s % 256 := ⟨_, rfl⟩
  rw [← e2] at b2
  rw [← e3] at b3
  rw [← e4] at b4
  have l1 : x1 < 256 := by omega
  have i1 : 0 ≤ (x1 : Int) ∧ (x1 : Int) < 256 := by omega
  have i2 : 0 ≤ (x2 : Int) ∧ (x2 : Int) < 256 := by omega
  have i3 : 0 ≤ (x3 : Int) ∧ (x3 : Int) < 256 := by omega
  have i4 : 0 ≤ (x4 : Int) ∧ (x4 : Int) < 256 := by omega
  have l2 : x2 < 256 := by omega
  have l3 : x3 < 256 := by omega
  have l4 : x4 < 256 := by omega
  have b1 : (s : Int) / 16777216 = (x1 : Int) := by omega
  rw [show ((s / 65536 : Nat) : Int) = (s : Int) / 65536 by omega] at b2
  rw [show ((s / 256 : Nat) : Int) = (s : Int) / 256 by omega] at b3
  have hp : Rg.pop s = Rg.popB x1 + Rg.popB x2 + Rg.popB x3 + Rg.popB x4 := by
    rw [Rg.pop_bytes, e1, e2, e3, e4, Nat.mod_eq_of_lt (show s / 16777216 < 256 by omega)]
  have HP := Lib.hid hp
  have HM := Lib.hid (And.intro e1 (And.intro e2 (And.intro e3 e4)))
  clear hp mk e1 e2 e3 e4 k1
  go_enter Try.func100, Try.ntmps100
  go_wp2
  refine wp_region_quiet_bel (by kernel_rfl) (by kernel_rfl) ?_
  repeat (quiet_step (fail))
  refine wpQuiet_nil ?_
  rintro _ ⟨⟨wq, hwq⟩, rfl⟩
  go_wp2
  go_ret
  refine ⟨Eq.trans (b := Ending.returned (.int .i64 _)) rfl (ret_int ?_), hwq⟩
  rw [tab_of (by kernel_rfl) (by kernel_rfl) x1 _ l1, tab_of (by kernel_rfl) (by kernel_rfl) x2 _ l2, tab_of (by kernel_rfl) (by kernel_rfl) x3 _ l3, tab_of (by kernel_rfl) (by kernel_rfl) x4 _ l4, HP.out]
  have p1 := Rg.popB_le x1
  have p2 := Rg.popB_le x2
  have p3 := Rg.popB_le x3
  have p4 := Rg.popB_le x4
  simp only [IntKind.wrap_u8, IntKind.wrap_i64]
  omega
theorem pop_lt (s : Nat) : Rg.pop s ≤ 32 := Rg.cnt_le _ _
theorem count_any (s : Nat) (w : World) (hs : s < 4294967296) : Calls Try.prog 88 #[.int .u32 (s : Int)] w fun e w' => e = .returned (.int .i64 ((Rg.pop s : Nat) : Int)) ∧ Below w.heap.size w w' := by
  have C := Lib.hid (onesP_any s w hs)
  have hp := pop_lt s
  generalize Rg.pop s = p at C hp ⊢
  have j1 : (0 : Int) ≤ (p : Int) := by omega
  have j2 : (p : Int) ≤ 32 := by omega
  go_enter Try.func88, Try.ntmps88
  go_wp2_with fail
  refine C.out.mono ?_
  rintro e w1 ⟨rfl, hb⟩
  have HB := Lib.hid hb; clear hb
  go_wp2
  go_ret
  exact ⟨rfl, HB.out⟩
end Go.Proofs.Ytfmplneopmbfoaa.Wds
