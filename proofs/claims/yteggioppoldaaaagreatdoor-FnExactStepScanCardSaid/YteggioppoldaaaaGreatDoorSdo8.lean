/-
  What the model's operation on words of 8 bits returns, over the translated program: one contract an operation.
-/
import Derived.Test.YteggioppoldaaaaGreatDoorSdoBase
namespace Go.Proofs.YteggioppoldaaaaGreatDoor.Wds
open Go.RowKit
set_option linter.unusedVariables false

theorem sdo8_0 (x y : Int) (w : World) (hx0 : 0 ≤ x) (hx1 : x < 256) (hy0 : 0 ≤ y) (hy1 : y < 256) : Calls Tryz.prog 57 #[.int .i64 0, .int .i64 8, .int .i64 x, .int .i64 y] w fun e w' => e = .returned (.int .i64 (Wd.doOp 0 8 x y)) ∧ w = w' := by
  have hx : Wd.IsWord 8 x := ⟨.inr (.inl rfl), hx0, hx1⟩
  have hy : Wd.IsWord 8 y := ⟨.inr (.inl rfl), hy0, hy1⟩
  have s1a : -128 ≤ Wd.sg 8 x := (Wd.sg_range (.inr (.inl rfl)) ⟨hx0, hx1⟩).1
  have s1b : Wd.sg 8 x < 128 := (Wd.sg_range (.inr (.inl rfl)) ⟨hx0, hx1⟩).2.1
  have s2a : -128 ≤ Wd.sg 8 y := (Wd.sg_range (.inr (.inl rfl)) ⟨hy0, hy1⟩).1
  have s2b : Wd.sg 8 y < 128 := (Wd.sg_range (.inr (.inl rfl)) ⟨hy0, hy1⟩).2.1
  have HX := Lib.hid hx; clear hx
  have HY := Lib.hid hy; clear hy
  go_enter Tryz.func57, Tryz.ntmps57
  go_wp2_with fail
  refine (ssigned_any _ x _ HX.out).mono ?_
  rintro e w' ⟨rfl, rfl⟩
  go_wp2_with fail
  refine (ssigned_any _ y _ HY.out).mono ?_
  rintro e w' ⟨rfl, rfl⟩
  go_wp2_with fail
  refine (swrap_any _ _ _ (.inr (.inl rfl))).mono ?_
  rintro e w' ⟨rfl, rfl⟩
  go_wp2_with fail
  go_ret
  exact ⟨ret_int (rfl), rfl⟩
theorem sdo8_1 (x y : Int) (w : World) (hx0 : 0 ≤ x) (hx1 : x < 256) (hy0 : 0 ≤ y) (hy1 : y < 256) : Calls Tryz.prog 57 #[.int .i64 1, .int .i64 8, .int .i64 x, .int .i64 y] w fun e w' => e = .returned (.int .i64 (Wd.doOp 1 8 x y)) ∧ w = w' := by
  have hx : Wd.IsWord 8 x := ⟨.inr (.inl rfl), hx0, hx1⟩
  have hy : Wd.IsWord 8 y := ⟨.inr (.inl rfl), hy0, hy1⟩
  have s1a : -128 ≤ Wd.sg 8 x := (Wd.sg_range (.inr (.inl rfl)) ⟨hx0, hx1⟩).1
  have s1b : Wd.sg 8 x < 128 := (Wd.sg_range (.inr (.inl rfl)) ⟨hx0, hx1⟩).2.1
  have s2a : -128 ≤ Wd.sg 8 y := (Wd.sg_range (.inr (.inl rfl)) ⟨hy0, hy1⟩).1
  have s2b : Wd.sg 8 y < 128 := (Wd.sg_range (.inr (.inl rfl)) ⟨hy0, hy1⟩).2.1
  have HX := Lib.hid hx; clear hx
  have HY := Lib.hid hy; clear hy
  go_enter Tryz.func57, Tryz.ntmps57
  go_wp2_with fail
  refine (ssigned_any _ x _ HX.out).mono ?_
  rintro e w' ⟨rfl, rfl⟩
  go_wp2_with fail
  refine (ssigned_any _ y _ HY.out).mono ?_
  rintro e w' ⟨rfl, rfl⟩
  go_wp2_with fail
  refine (swrap_any _ _ _ (.inr (.inl rfl))).mono ?_
  rintro e w' ⟨rfl, rfl⟩
  go_wp2_with fail
  go_ret
  exact ⟨ret_int (rfl), rfl⟩
theorem sdo8_2 (x y : Int) (w : World) (hx0 : 0 ≤ x) (hx1 : x < 256) (hy0 : 0 ≤ y) (hy1 : y < 256) : Calls Tryz.prog 57 #[.int .i64 2, .int .i64 8, .int .i64 x, .int .i64 y] w fun e w' => e = .returned (.int .i64 (Wd.doOp 2 8 x y)) ∧ w = w' := by
  have hx : Wd.IsWord 8 x := ⟨.inr (.inl rfl), hx0, hx1⟩
  have hy : Wd.IsWord 8 y := ⟨.inr (.inl rfl), hy0, hy1⟩
  have s1a : -128 ≤ Wd.sg 8 x := (Wd.sg_range (.inr (.inl rfl)) ⟨hx0, hx1⟩).1
  have s1b : Wd.sg 8 x < 128 := (Wd.sg_range (.inr (.inl rfl)) ⟨hx0, hx1⟩).2.1
  have s2a : -128 ≤ Wd.sg 8 y := (Wd.sg_range (.inr (.inl rfl)) ⟨hy0, hy1⟩).1
  have s2b : Wd.sg 8 y < 128 := (Wd.sg_range (.inr (.inl rfl)) ⟨hy0, hy1⟩).2.1
  have m0 : 0 ≤ x * y := Int.mul_nonneg hx0 hy0
  have m1 : x * y ≤ 256 * 256 := Int.mul_le_mul (by omega) (by omega) hy0 (by decide)
  have HX := Lib.hid hx; clear hx
  have HY := Lib.hid hy; clear hy
  go_enter Tryz.func57, Tryz.ntmps57
  go_wp2_with fail
  refine (ssigned_any _ x _ HX.out).mono ?_
  rintro e w' ⟨rfl, rfl⟩
  go_wp2_with fail
  refine (ssigned_any _ y _ HY.out).mono ?_
  rintro e w' ⟨rfl, rfl⟩
  go_wp2_with fail
  refine (swrap_any _ _ _ (.inr (.inl rfl))).mono ?_
  rintro e w' ⟨rfl, rfl⟩
  go_wp2_with fail
  go_ret
  exact ⟨ret_int (rfl), rfl⟩
theorem sdo8_3 (x y : Int) (w : World) (hx0 : 0 ≤ x) (hx1 : x < 256) (hy0 : 0 ≤ y) (hy1 : y < 256) : Calls Tryz.prog 57 #[.int .i64 3, .int .i64 8, .int .i64 x, .int .i64 y] w fun e w' => e = .returned (.int .i64 (Wd.doOp 3 8 x y)) ∧ w = w' := by
  have hx : Wd.IsWord 8 x := ⟨.inr (.inl rfl), hx0, hx1⟩
  have hy : Wd.IsWord 8 y := ⟨.inr (.inl rfl), hy0, hy1⟩
  have s1a : -128 ≤ Wd.sg 8 x := (Wd.sg_range (.inr (.inl rfl)) ⟨hx0, hx1⟩).1
  have s1b : Wd.sg 8 x < 128 := (Wd.sg_range (.inr (.inl rfl)) ⟨hx0, hx1⟩).2.1
  have s2a : -128 ≤ Wd.sg 8 y := (Wd.sg_range (.inr (.inl rfl)) ⟨hy0, hy1⟩).1
  have s2b : Wd.sg 8 y < 128 := (Wd.sg_range (.inr (.inl rfl)) ⟨hy0, hy1⟩).2.1
  have HX := Lib.hid hx; clear hx
  have HY := Lib.hid hy; clear hy
  go_enter Tryz.func57, Tryz.ntmps57
  go_wp2_with fail
  refine (ssigned_any _ x _ HX.out).mono ?_
  rintro e w' ⟨rfl, rfl⟩
  go_wp2_with fail
  refine (ssigned_any _ y _ HY.out).mono ?_
  rintro e w' ⟨rfl, rfl⟩
  go_wp2_with fail
  go_ret
  exact ⟨ret_int ((Bts.three_i64 x y hx0 (by omega) hy0 (by omega)).1), rfl⟩
theorem sdo8_4 (x y : Int) (w : World) (hx0 : 0 ≤ x) (hx1 : x < 256) (hy0 : 0 ≤ y) (hy1 : y < 256) : Calls Tryz.prog 57 #[.int .i64 4, .int .i64 8, .int .i64 x, .int .i64 y] w fun e w' => e = .returned (.int .i64 (Wd.doOp 4 8 x y)) ∧ w = w' := by
  have hx : Wd.IsWord 8 x := ⟨.inr (.inl rfl), hx0, hx1⟩
  have hy : Wd.IsWord 8 y := ⟨.inr (.inl rfl), hy0, hy1⟩
  have s1a : -128 ≤ Wd.sg 8 x := (Wd.sg_range (.inr (.inl rfl)) ⟨hx0, hx1⟩).1
  have s1b : Wd.sg 8 x < 128 := (Wd.sg_range (.inr (.inl rfl)) ⟨hx0, hx1⟩).2.1
  have s2a : -128 ≤ Wd.sg 8 y := (Wd.sg_range (.inr (.inl rfl)) ⟨hy0, hy1⟩).1
  have s2b : Wd.sg 8 y < 128 := (Wd.sg_range (.inr (.inl rfl)) ⟨hy0, hy1⟩).2.1
  have HX := Lib.hid hx; clear hx
  have HY := Lib.hid hy; clear hy
  go_enter Tryz.func57, Tryz.ntmps57
  go_wp2_with fail
  refine (ssigned_any _ x _ HX.out).mono ?_
  rintro e w' ⟨rfl, rfl⟩
  go_wp2_with fail
  refine (ssigned_any _ y _ HY.out).mono ?_
  rintro e w' ⟨rfl, rfl⟩
  go_wp2_with fail
  go_ret
  exact ⟨ret_int ((Bts.three_i64 x y hx0 (by omega) hy0 (by omega)).2.1), rfl⟩
theorem sdo8_5 (x y : Int) (w : World) (hx0 : 0 ≤ x) (hx1 : x < 256) (hy0 : 0 ≤ y) (hy1 : y < 256) : Calls Tryz.prog 57 #[.int .i64 5, .int .i64 8, .int .i64 x, .int .i64 y] w fun e w' => e = .returned (.int .i64 (Wd.doOp 5 8 x y)) ∧ w = w' := by
  have hx : Wd.IsWord 8 x := ⟨.inr (.inl rfl), hx0, hx1⟩
  have hy : Wd.IsWord 8 y := ⟨.inr (.inl rfl), hy0, hy1⟩
  have s1a : -128 ≤ Wd.sg 8 x := (Wd.sg_range (.inr (.inl rfl)) ⟨hx0, hx1⟩).1
  have s1b : Wd.sg 8 x < 128 := (Wd.sg_range (.inr (.inl rfl)) ⟨hx0, hx1⟩).2.1
  have s2a : -128 ≤ Wd.sg 8 y := (Wd.sg_range (.inr (.inl rfl)) ⟨hy0, hy1⟩).1
  have s2b : Wd.sg 8 y < 128 := (Wd.sg_range (.inr (.inl rfl)) ⟨hy0, hy1⟩).2.1
  have HX := Lib.hid hx; clear hx
  have HY := Lib.hid hy; clear hy
  go_enter Tryz.func57, Tryz.ntmps57
  go_wp2_with fail
  refine (ssigned_any _ x _ HX.out).mono ?_
  rintro e w' ⟨rfl, rfl⟩
  go_wp2_with fail
  refine (ssigned_any _ y _ HY.out).mono ?_
  rintro e w' ⟨rfl, rfl⟩
  go_wp2_with fail
  go_ret
  exact ⟨ret_int ((Bts.three_i64 x y hx0 (by omega) hy0 (by omega)).2.2), rfl⟩
theorem sdo8_6 (x y : Int) (w : World) (hx0 : 0 ≤ x) (hx1 : x < 256) (hy0 : 0 ≤ y) (hy1 : y < 256) : Calls Tryz.prog 57 #[.int .i64 6, .int .i64 8, .int .i64 x, .int .i64 y] w fun e w' => e = .returned (.int .i64 (Wd.doOp 6 8 x y)) ∧ w = w' := by
  have hx : Wd.IsWord 8 x := ⟨.inr (.inl rfl), hx0, hx1⟩
  have hy : Wd.IsWord 8 y := ⟨.inr (.inl rfl), hy0, hy1⟩
  have s1a : -128 ≤ Wd.sg 8 x := (Wd.sg_range (.inr (.inl rfl)) ⟨hx0, hx1⟩).1
  have s1b : Wd.sg 8 x < 128 := (Wd.sg_range (.inr (.inl rfl)) ⟨hx0, hx1⟩).2.1
  have s2a : -128 ≤ Wd.sg 8 y := (Wd.sg_range (.inr (.inl rfl)) ⟨hy0, hy1⟩).1
  have s2b : Wd.sg 8 y < 128 := (Wd.sg_range (.inr (.inl rfl)) ⟨hy0, hy1⟩).2.1
  have HX := Lib.hid hx; clear hx
  have HY := Lib.hid hy; clear hy
  go_enter Tryz.func57, Tryz.ntmps57
  go_wp2_with fail
  refine (ssigned_any _ x _ HX.out).mono ?_
  rintro e w' ⟨rfl, rfl⟩
  go_wp2_with fail
  refine (ssigned_any _ y _ HY.out).mono ?_
  rintro e w' ⟨rfl, rfl⟩
  go_wp2_with fail
  refine (min_any _ _ _).mono ?_
  rintro e w' ⟨rfl, rfl⟩
  go_wp2_with fail
  go_ret
  exact ⟨ret_int (by simp only [Wd.doOp, reduceIte, Int.reduceEq, mn]; omega), rfl⟩
theorem sdo8_7 (x y : Int) (w : World) (hx0 : 0 ≤ x) (hx1 : x < 256) (hy0 : 0 ≤ y) (hy1 : y < 256) : Calls Tryz.prog 57 #[.int .i64 7, .int .i64 8, .int .i64 x, .int .i64 y] w fun e w' => e = .returned (.int .i64 (Wd.doOp 7 8 x y)) ∧ w = w' := by
  have hx : Wd.IsWord 8 x := ⟨.inr (.inl rfl), hx0, hx1⟩
  have hy : Wd.IsWord 8 y := ⟨.inr (.inl rfl), hy0, hy1⟩
  have s1a : -128 ≤ Wd.sg 8 x := (Wd.sg_range (.inr (.inl rfl)) ⟨hx0, hx1⟩).1
  have s1b : Wd.sg 8 x < 128 := (Wd.sg_range (.inr (.inl rfl)) ⟨hx0, hx1⟩).2.1
  have s2a : -128 ≤ Wd.sg 8 y := (Wd.sg_range (.inr (.inl rfl)) ⟨hy0, hy1⟩).1
  have s2b : Wd.sg 8 y < 128 := (Wd.sg_range (.inr (.inl rfl)) ⟨hy0, hy1⟩).2.1
  have HX := Lib.hid hx; clear hx
  have HY := Lib.hid hy; clear hy
  go_enter Tryz.func57, Tryz.ntmps57
  go_wp2_with fail
  refine (ssigned_any _ x _ HX.out).mono ?_
  rintro e w' ⟨rfl, rfl⟩
  go_wp2_with fail
  refine (ssigned_any _ y _ HY.out).mono ?_
  rintro e w' ⟨rfl, rfl⟩
  go_wp2_with fail
  refine (max_any _ _ _).mono ?_
  rintro e w' ⟨rfl, rfl⟩
  go_wp2_with fail
  go_ret
  exact ⟨ret_int (by simp only [Wd.doOp, reduceIte, Int.reduceEq, mx]; omega), rfl⟩
theorem sdo8_8 (x y : Int) (w : World) (hx0 : 0 ≤ x) (hx1 : x < 256) (hy0 : 0 ≤ y) (hy1 : y < 256) : Calls Tryz.prog 57 #[.int .i64 8, .int .i64 8, .int .i64 x, .int .i64 y] w fun e w' => e = .returned (.int .i64 (Wd.doOp 8 8 x y)) ∧ w = w' := by
  have hx : Wd.IsWord 8 x := ⟨.inr (.inl rfl), hx0, hx1⟩
  have hy : Wd.IsWord 8 y := ⟨.inr (.inl rfl), hy0, hy1⟩
  have s1a : -128 ≤ Wd.sg 8 x := (Wd.sg_range (.inr (.inl rfl)) ⟨hx0, hx1⟩).1
  have s1b : Wd.sg 8 x < 128 := (Wd.sg_range (.inr (.inl rfl)) ⟨hx0, hx1⟩).2.1
  have s2a : -128 ≤ Wd.sg 8 y := (Wd.sg_range (.inr (.inl rfl)) ⟨hy0, hy1⟩).1
  have s2b : Wd.sg 8 y < 128 := (Wd.sg_range (.inr (.inl rfl)) ⟨hy0, hy1⟩).2.1
  have HX := Lib.hid hx; clear hx
  have HY := Lib.hid hy; clear hy
  go_enter Tryz.func57, Tryz.ntmps57
  go_wp2_with fail
  refine (ssigned_any _ x _ HX.out).mono ?_
  rintro e w' ⟨rfl, rfl⟩
  go_wp2_with fail
  refine (ssigned_any _ y _ HY.out).mono ?_
  rintro e w' ⟨rfl, rfl⟩
  go_wp2_with fail
  refine (min_any _ _ _).mono ?_
  rintro e w' ⟨rfl, rfl⟩
  go_wp2_with fail
  refine (swrap_any _ _ _ (.inr (.inl rfl))).mono ?_
  rintro e w' ⟨rfl, rfl⟩
  go_wp2_with fail
  go_ret
  exact ⟨ret_int (sfin8 8 x y (.inr (.inl rfl)) ⟨hx0, hx1⟩ ⟨hy0, hy1⟩), rfl⟩
theorem sdo8_9 (x y : Int) (w : World) (hx0 : 0 ≤ x) (hx1 : x < 256) (hy0 : 0 ≤ y) (hy1 : y < 256) : Calls Tryz.prog 57 #[.int .i64 9, .int .i64 8, .int .i64 x, .int .i64 y] w fun e w' => e = .returned (.int .i64 (Wd.doOp 9 8 x y)) ∧ w = w' := by
  have hx : Wd.IsWord 8 x := ⟨.inr (.inl rfl), hx0, hx1⟩
  have hy : Wd.IsWord 8 y := ⟨.inr (.inl rfl), hy0, hy1⟩
  have s1a : -128 ≤ Wd.sg 8 x := (Wd.sg_range (.inr (.inl rfl)) ⟨hx0, hx1⟩).1
  have s1b : Wd.sg 8 x < 128 := (Wd.sg_range (.inr (.inl rfl)) ⟨hx0, hx1⟩).2.1
  have s2a : -128 ≤ Wd.sg 8 y := (Wd.sg_range (.inr (.inl rfl)) ⟨hy0, hy1⟩).1
  have s2b : Wd.sg 8 y < 128 := (Wd.sg_range (.inr (.inl rfl)) ⟨hy0, hy1⟩).2.1
  have HX := Lib.hid hx; clear hx
  have HY := Lib.hid hy; clear hy
  go_enter Tryz.func57, Tryz.ntmps57
  go_wp2_with fail
  refine (ssigned_any _ x _ HX.out).mono ?_
  rintro e w' ⟨rfl, rfl⟩
  go_wp2_with fail
  refine (ssigned_any _ y _ HY.out).mono ?_
  rintro e w' ⟨rfl, rfl⟩
  go_wp2_with fail
  refine (max_any _ _ _).mono ?_
  rintro e w' ⟨rfl, rfl⟩
  go_wp2_with fail
  refine (swrap_any _ _ _ (.inr (.inl rfl))).mono ?_
  rintro e w' ⟨rfl, rfl⟩
  go_wp2_with fail
  go_ret
  exact ⟨ret_int (sfin9 8 x y (.inr (.inl rfl)) ⟨hx0, hx1⟩ ⟨hy0, hy1⟩), rfl⟩
theorem sdo8_10 (x y : Int) (w : World) (hx0 : 0 ≤ x) (hx1 : x < 256) (hy0 : 0 ≤ y) (hy1 : y < 256) : Calls Tryz.prog 57 #[.int .i64 10, .int .i64 8, .int .i64 x, .int .i64 y] w fun e w' => e = .returned (.int .i64 (Wd.doOp 10 8 x y)) ∧ w = w' := by
  have hx : Wd.IsWord 8 x := ⟨.inr (.inl rfl), hx0, hx1⟩
  have hy : Wd.IsWord 8 y := ⟨.inr (.inl rfl), hy0, hy1⟩
  have s1a : -128 ≤ Wd.sg 8 x := (Wd.sg_range (.inr (.inl rfl)) ⟨hx0, hx1⟩).1
  have s1b : Wd.sg 8 x < 128 := (Wd.sg_range (.inr (.inl rfl)) ⟨hx0, hx1⟩).2.1
  have s2a : -128 ≤ Wd.sg 8 y := (Wd.sg_range (.inr (.inl rfl)) ⟨hy0, hy1⟩).1
  have s2b : Wd.sg 8 y < 128 := (Wd.sg_range (.inr (.inl rfl)) ⟨hy0, hy1⟩).2.1
  have HX := Lib.hid hx; clear hx
  have HY := Lib.hid hy; clear hy
  go_enter Tryz.func57, Tryz.ntmps57
  go_wp2_with fail
  refine (ssigned_any _ x _ HX.out).mono ?_
  rintro e w' ⟨rfl, rfl⟩
  go_wp2_with fail
  refine (ssigned_any _ y _ HY.out).mono ?_
  rintro e w' ⟨rfl, rfl⟩
  go_wp2_with fail
  refine (min_any _ _ _).mono ?_
  rintro e w' ⟨rfl, rfl⟩
  go_wp2_with fail
  go_ret
  exact ⟨ret_int (show mn (x + y) 255 = min (x + y) 255 by unfold mn; omega), rfl⟩
theorem sdo8_11 (x y : Int) (w : World) (hx0 : 0 ≤ x) (hx1 : x < 256) (hy0 : 0 ≤ y) (hy1 : y < 256) : Calls Tryz.prog 57 #[.int .i64 11, .int .i64 8, .int .i64 x, .int .i64 y] w fun e w' => e = .returned (.int .i64 (Wd.doOp 11 8 x y)) ∧ w = w' := by
  have hx : Wd.IsWord 8 x := ⟨.inr (.inl rfl), hx0, hx1⟩
  have hy : Wd.IsWord 8 y := ⟨.inr (.inl rfl), hy0, hy1⟩
  have s1a : -128 ≤ Wd.sg 8 x := (Wd.sg_range (.inr (.inl rfl)) ⟨hx0, hx1⟩).1
  have s1b : Wd.sg 8 x < 128 := (Wd.sg_range (.inr (.inl rfl)) ⟨hx0, hx1⟩).2.1
  have s2a : -128 ≤ Wd.sg 8 y := (Wd.sg_range (.inr (.inl rfl)) ⟨hy0, hy1⟩).1
  have s2b : Wd.sg 8 y < 128 := (Wd.sg_range (.inr (.inl rfl)) ⟨hy0, hy1⟩).2.1
  have HX := Lib.hid hx; clear hx
  have HY := Lib.hid hy; clear hy
  go_enter Tryz.func57, Tryz.ntmps57
  go_wp2_with fail
  refine (ssigned_any _ x _ HX.out).mono ?_
  rintro e w' ⟨rfl, rfl⟩
  go_wp2_with fail
  refine (ssigned_any _ y _ HY.out).mono ?_
  rintro e w' ⟨rfl, rfl⟩
  go_wp2_with fail
  refine (btw_any _ _ _ _).mono ?_
  rintro e w' ⟨rfl, rfl⟩
  go_wp2_with fail
  refine (swrap_any _ _ _ (.inr (.inl rfl))).mono ?_
  rintro e w' ⟨rfl, rfl⟩
  go_wp2_with fail
  go_ret
  exact ⟨ret_int (congrArg (Wd.wr 8) (btw_cl 8 (Wd.sg 8 x + Wd.sg 8 y) (by decide))), rfl⟩
theorem sdo8_12 (x y : Int) (w : World) (hx0 : 0 ≤ x) (hx1 : x < 256) (hy0 : 0 ≤ y) (hy1 : y < 256) : Calls Tryz.prog 57 #[.int .i64 12, .int .i64 8, .int .i64 x, .int .i64 y] w fun e w' => e = .returned (.int .i64 (Wd.doOp 12 8 x y)) ∧ w = w' := by
  have hx : Wd.IsWord 8 x := ⟨.inr (.inl rfl), hx0, hx1⟩
  have hy : Wd.IsWord 8 y := ⟨.inr (.inl rfl), hy0, hy1⟩
  have s1a : -128 ≤ Wd.sg 8 x := (Wd.sg_range (.inr (.inl rfl)) ⟨hx0, hx1⟩).1
  have s1b : Wd.sg 8 x < 128 := (Wd.sg_range (.inr (.inl rfl)) ⟨hx0, hx1⟩).2.1
  have s2a : -128 ≤ Wd.sg 8 y := (Wd.sg_range (.inr (.inl rfl)) ⟨hy0, hy1⟩).1
  have s2b : Wd.sg 8 y < 128 := (Wd.sg_range (.inr (.inl rfl)) ⟨hy0, hy1⟩).2.1
  have HX := Lib.hid hx; clear hx
  have HY := Lib.hid hy; clear hy
  go_enter Tryz.func57, Tryz.ntmps57
  go_wp2_with fail
  refine (ssigned_any _ x _ HX.out).mono ?_
  rintro e w' ⟨rfl, rfl⟩
  go_wp2_with fail
  refine (ssigned_any _ y _ HY.out).mono ?_
  rintro e w' ⟨rfl, rfl⟩
  go_wp2_with fail
  refine (max_any _ _ _).mono ?_
  rintro e w' ⟨rfl, rfl⟩
  go_wp2_with fail
  go_ret
  exact ⟨ret_int (show mx (x - y) 0 = max (x - y) 0 by unfold mx; omega), rfl⟩
theorem sdo8_13 (x y : Int) (w : World) (hx0 : 0 ≤ x) (hx1 : x < 256) (hy0 : 0 ≤ y) (hy1 : y < 256) : Calls Tryz.prog 57 #[.int .i64 13, .int .i64 8, .int .i64 x, .int .i64 y] w fun e w' => e = .returned (.int .i64 (Wd.doOp 13 8 x y)) ∧ w = w' := by
  have hx : Wd.IsWord 8 x := ⟨.inr (.inl rfl), hx0, hx1⟩
  have hy : Wd.IsWord 8 y := ⟨.inr (.inl rfl), hy0, hy1⟩
  have s1a : -128 ≤ Wd.sg 8 x := (Wd.sg_range (.inr (.inl rfl)) ⟨hx0, hx1⟩).1
  have s1b : Wd.sg 8 x < 128 := (Wd.sg_range (.inr (.inl rfl)) ⟨hx0, hx1⟩).2.1
  have s2a : -128 ≤ Wd.sg 8 y := (Wd.sg_range (.inr (.inl rfl)) ⟨hy0, hy1⟩).1
  have s2b : Wd.sg 8 y < 128 := (Wd.sg_range (.inr (.inl rfl)) ⟨hy0, hy1⟩).2.1
  have HX := Lib.hid hx; clear hx
  have HY := Lib.hid hy; clear hy
  go_enter Tryz.func57, Tryz.ntmps57
  go_wp2_with fail
  refine (ssigned_any _ x _ HX.out).mono ?_
  rintro e w' ⟨rfl, rfl⟩
  go_wp2_with fail
  refine (ssigned_any _ y _ HY.out).mono ?_
  rintro e w' ⟨rfl, rfl⟩
  go_wp2_with fail
  refine (btw_any _ _ _ _).mono ?_
  rintro e w' ⟨rfl, rfl⟩
  go_wp2_with fail
  refine (swrap_any _ _ _ (.inr (.inl rfl))).mono ?_
  rintro e w' ⟨rfl, rfl⟩
  go_wp2_with fail
  go_ret
  exact ⟨ret_int (congrArg (Wd.wr 8) (btw_cl 8 (Wd.sg 8 x - Wd.sg 8 y) (by decide))), rfl⟩
theorem sdo8_14 (x y : Int) (w : World) (hx0 : 0 ≤ x) (hx1 : x < 256) (hy0 : 0 ≤ y) (hy1 : y < 256) : Calls Tryz.prog 57 #[.int .i64 14, .int .i64 8, .int .i64 x, .int .i64 y] w fun e w' => e = .returned (.int .i64 (Wd.doOp 14 8 x y)) ∧ w = w' := by
  have hx : Wd.IsWord 8 x := ⟨.inr (.inl rfl), hx0, hx1⟩
  have hy : Wd.IsWord 8 y := ⟨.inr (.inl rfl), hy0, hy1⟩
  have s1a : -128 ≤ Wd.sg 8 x := (Wd.sg_range (.inr (.inl rfl)) ⟨hx0, hx1⟩).1
  have s1b : Wd.sg 8 x < 128 := (Wd.sg_range (.inr (.inl rfl)) ⟨hx0, hx1⟩).2.1
  have s2a : -128 ≤ Wd.sg 8 y := (Wd.sg_range (.inr (.inl rfl)) ⟨hy0, hy1⟩).1
  have s2b : Wd.sg 8 y < 128 := (Wd.sg_range (.inr (.inl rfl)) ⟨hy0, hy1⟩).2.1
  have HX := Lib.hid hx; clear hx
  have HY := Lib.hid hy; clear hy
  go_enter Tryz.func57, Tryz.ntmps57
  go_wp2_with fail
  refine (ssigned_any _ x _ HX.out).mono ?_
  rintro e w' ⟨rfl, rfl⟩
  go_wp2_with fail
  refine (ssigned_any _ y _ HY.out).mono ?_
  rintro e w' ⟨rfl, rfl⟩
  go_wp2_with fail
  go_ret
  exact ⟨ret_int (rfl), rfl⟩
theorem sdo8_15 (x y : Int) (w : World) (hx0 : 0 ≤ x) (hx1 : x < 256) (hy0 : 0 ≤ y) (hy1 : y < 256) : Calls Tryz.prog 57 #[.int .i64 15, .int .i64 8, .int .i64 x, .int .i64 y] w fun e w' => e = .returned (.int .i64 (Wd.doOp 15 8 x y)) ∧ w = w' := by
  have hx : Wd.IsWord 8 x := ⟨.inr (.inl rfl), hx0, hx1⟩
  have hy : Wd.IsWord 8 y := ⟨.inr (.inl rfl), hy0, hy1⟩
  have s1a : -128 ≤ Wd.sg 8 x := (Wd.sg_range (.inr (.inl rfl)) ⟨hx0, hx1⟩).1
  have s1b : Wd.sg 8 x < 128 := (Wd.sg_range (.inr (.inl rfl)) ⟨hx0, hx1⟩).2.1
  have s2a : -128 ≤ Wd.sg 8 y := (Wd.sg_range (.inr (.inl rfl)) ⟨hy0, hy1⟩).1
  have s2b : Wd.sg 8 y < 128 := (Wd.sg_range (.inr (.inl rfl)) ⟨hy0, hy1⟩).2.1
  have k0 : 0 ≤ y % 8 := by omega
  have k1 : y % 8 < 8 := by omega
  have q0 : 0 ≤ x * 2 ^ (y % 8).toNat := Int.mul_nonneg hx0 (Int.le_of_lt (Int.pow_pos (by decide)))
  have HX := Lib.hid hx; clear hx
  have HY := Lib.hid hy; clear hy
  go_enter Tryz.func57, Tryz.ntmps57
  go_wp2_with fail
  refine (ssigned_any _ x _ HX.out).mono ?_
  rintro e w' ⟨rfl, rfl⟩
  go_wp2_with fail
  refine (ssigned_any _ y _ HY.out).mono ?_
  rintro e w' ⟨rfl, rfl⟩
  go_wp2_with fail
  refine (swrap_any _ _ _ (.inr (.inl rfl))).mono ?_
  rintro e w' ⟨rfl, rfl⟩
  go_wp2_with fail
  go_ret
  exact ⟨ret_int (wr_wrap64 8 _ (.inr (.inl rfl))), rfl⟩
theorem sdo8_16 (x y : Int) (w : World) (hx0 : 0 ≤ x) (hx1 : x < 256) (hy0 : 0 ≤ y) (hy1 : y < 256) : Calls Tryz.prog 57 #[.int .i64 16, .int .i64 8, .int .i64 x, .int .i64 y] w fun e w' => e = .returned (.int .i64 (Wd.doOp 16 8 x y)) ∧ w = w' := by
  have hx : Wd.IsWord 8 x := ⟨.inr (.inl rfl), hx0, hx1⟩
  have hy : Wd.IsWord 8 y := ⟨.inr (.inl rfl), hy0, hy1⟩
  have s1a : -128 ≤ Wd.sg 8 x := (Wd.sg_range (.inr (.inl rfl)) ⟨hx0, hx1⟩).1
  have s1b : Wd.sg 8 x < 128 := (Wd.sg_range (.inr (.inl rfl)) ⟨hx0, hx1⟩).2.1
  have s2a : -128 ≤ Wd.sg 8 y := (Wd.sg_range (.inr (.inl rfl)) ⟨hy0, hy1⟩).1
  have s2b : Wd.sg 8 y < 128 := (Wd.sg_range (.inr (.inl rfl)) ⟨hy0, hy1⟩).2.1
  have k0 : 0 ≤ y % 8 := by omega
  have k1 : y % 8 < 8 := by omega
  have HX := Lib.hid hx; clear hx
  have HY := Lib.hid hy; clear hy
  go_enter Tryz.func57, Tryz.ntmps57
  go_wp2_with fail
  refine (ssigned_any _ x _ HX.out).mono ?_
  rintro e w' ⟨rfl, rfl⟩
  go_wp2_with fail
  refine (ssigned_any _ y _ HY.out).mono ?_
  rintro e w' ⟨rfl, rfl⟩
  go_wp2_with fail
  go_ret
  exact ⟨ret_int (rfl), rfl⟩
theorem sdo8_17 (x y : Int) (w : World) (hx0 : 0 ≤ x) (hx1 : x < 256) (hy0 : 0 ≤ y) (hy1 : y < 256) : Calls Tryz.prog 57 #[.int .i64 17, .int .i64 8, .int .i64 x, .int .i64 y] w fun e w' => e = .returned (.int .i64 (Wd.doOp 17 8 x y)) ∧ w = w' := by
  have hx : Wd.IsWord 8 x := ⟨.inr (.inl rfl), hx0, hx1⟩
  have hy : Wd.IsWord 8 y := ⟨.inr (.inl rfl), hy0, hy1⟩
  have s1a : -128 ≤ Wd.sg 8 x := (Wd.sg_range (.inr (.inl rfl)) ⟨hx0, hx1⟩).1
  have s1b : Wd.sg 8 x < 128 := (Wd.sg_range (.inr (.inl rfl)) ⟨hx0, hx1⟩).2.1
  have s2a : -128 ≤ Wd.sg 8 y := (Wd.sg_range (.inr (.inl rfl)) ⟨hy0, hy1⟩).1
  have s2b : Wd.sg 8 y < 128 := (Wd.sg_range (.inr (.inl rfl)) ⟨hy0, hy1⟩).2.1
  have k0 : 0 ≤ y % 8 := by omega
  have k1 : y % 8 < 8 := by omega
  have HX := Lib.hid hx; clear hx
  have HY := Lib.hid hy; clear hy
  go_enter Tryz.func57, Tryz.ntmps57
  go_wp2_with fail
  refine (ssigned_any _ x _ HX.out).mono ?_
  rintro e w' ⟨rfl, rfl⟩
  go_wp2_with fail
  refine (ssigned_any _ y _ HY.out).mono ?_
  rintro e w' ⟨rfl, rfl⟩
  go_wp2_with fail
  refine (swrap_any _ _ _ (.inr (.inl rfl))).mono ?_
  rintro e w' ⟨rfl, rfl⟩
  go_wp2_with fail
  go_ret
  exact ⟨ret_int (rfl), rfl⟩
theorem sdo8 (op x y : Int) (w : World) (h0 : 0 ≤ op) (h1 : op ≤ 17) (hx0 : 0 ≤ x) (hx1 : x < 256) (hy0 : 0 ≤ y) (hy1 : y < 256) : Calls Tryz.prog 57 #[.int .i64 op, .int .i64 8, .int .i64 x, .int .i64 y] w fun e w' => e = .returned (.int .i64 (Wd.doOp op 8 x y)) ∧ w = w' := by
  rcases Wd.op_cases h0 h1 with rfl | rfl | rfl | rfl | rfl | rfl | rfl | rfl | rfl | rfl | rfl | rfl | rfl | rfl | rfl | rfl | rfl | rfl
  · exact sdo8_0 x y w hx0 hx1 hy0 hy1
  · exact sdo8_1 x y w hx0 hx1 hy0 hy1
  · exact sdo8_2 x y w hx0 hx1 hy0 hy1
  · exact sdo8_3 x y w hx0 hx1 hy0 hy1
  · exact sdo8_4 x y w hx0 hx1 hy0 hy1
  · exact sdo8_5 x y w hx0 hx1 hy0 hy1
  · exact sdo8_6 x y w hx0 hx1 hy0 hy1
  · exact sdo8_7 x y w hx0 hx1 hy0 hy1
  · exact sdo8_8 x y w hx0 hx1 hy0 hy1
  · exact sdo8_9 x y w hx0 hx1 hy0 hy1
  · exact sdo8_10 x y w hx0 hx1 hy0 hy1
  · exact sdo8_11 x y w hx0 hx1 hy0 hy1
  · exact sdo8_12 x y w hx0 hx1 hy0 hy1
  · exact sdo8_13 x y w hx0 hx1 hy0 hy1
  · exact sdo8_14 x y w hx0 hx1 hy0 hy1
  · exact sdo8_15 x y w hx0 hx1 hy0 hy1
  · exact sdo8_16 x y w hx0 hx1 hy0 hy1
  · exact sdo8_17 x y w hx0 hx1 hy0 hy1
end Go.Proofs.YteggioppoldaaaaGreatDoor.Wds
