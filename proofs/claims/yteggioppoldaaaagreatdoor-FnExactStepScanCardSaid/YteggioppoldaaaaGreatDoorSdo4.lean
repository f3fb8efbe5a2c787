/-
  What the model's operation on words of 4 bits returns, over the translated program: one contract an operation.
-/
import Derived.Test.YteggioppoldaaaaGreatDoorSdoBase
namespace Go.Proofs.YteggioppoldaaaaGreatDoor.Wds
open Go.RowKit
set_option linter.unusedVariables false

theorem sdo4_0 (x y : Int) (w : World) (hx0 : 0 ≤ x) (hx1 : x < 16) (hy0 : 0 ≤ y) (hy1 : y < 16) : Calls Tryz.prog 57 #[.int .i64 0, .int .i64 4, .int .i64 x, .int .i64 y] w fun e w' => e = .returned (.int .i64 (Wd.doOp 0 4 x y)) ∧ w = w' := by
  have hx : Wd.IsWord 4 x := ⟨.inl rfl, hx0, hx1⟩
  have hy : Wd.IsWord 4 y := ⟨.inl rfl, hy0, hy1⟩
  have s1a : -8 ≤ Wd.sg 4 x := (Wd.sg_range (.inl rfl) ⟨hx0, hx1⟩).1
  have s1b : Wd.sg 4 x < 8 := (Wd.sg_range (.inl rfl) ⟨hx0, hx1⟩).2.1
  have s2a : -8 ≤ Wd.sg 4 y := (Wd.sg_range (.inl rfl) ⟨hy0, hy1⟩).1
  have s2b : Wd.sg 4 y < 8 := (Wd.sg_range (.inl rfl) ⟨hy0, hy1⟩).2.1
  have HX := Lib.hid hx; clear hx
  have HY := Lib.hid hy; clear hy
  go_enter Tryz.func57, Tryz.ntmps57
  go_wp2_with fail
  refine (ssigned_any _ x _ HX.out).mono ?_
  rintro e w' ⟨rfl, rfl⟩
  go_wp2_with fail
  refine (ssigned_any _ y _ HY.out).mono ?_
  rintro e w' ⟨rfl, rfl⟩
  go_wp2_with fail
  refine (swrap_any _ _ _ (.inl rfl)).mono ?_
  rintro e w' ⟨rfl, rfl⟩
  go_wp2_with fail
  go_ret
  exact ⟨ret_int (rfl), rfl⟩
theorem sdo4_1 (x y : Int) (w : World) (hx0 : 0 ≤ x) (hx1 : x < 16) (hy0 : 0 ≤ y) (hy1 : y < 16) : Calls Tryz.prog 57 #[.int .i64 1, .int .i64 4, .int .i64 x, .int .i64 y] w fun e w' => e = .returned (.int .i64 (Wd.doOp 1 4 x y)) ∧ w = w' := by
  have hx : Wd.IsWord 4 x := ⟨.inl rfl, hx0, hx1⟩
  have hy : Wd.IsWord 4 y := ⟨.inl rfl, hy0, hy1⟩
  have s1a : -8 ≤ Wd.sg 4 x := (Wd.sg_range (.inl rfl) ⟨hx0, hx1⟩).1
  have s1b : Wd.sg 4 x < 8 := (Wd.sg_range (.inl rfl) ⟨hx0, hx1⟩).2.1
  have s2a : -8 ≤ Wd.sg 4 y := (Wd.sg_range (.inl rfl) ⟨hy0, hy1⟩).1
  have s2b : Wd.sg 4 y < 8 := (Wd.sg_range (.inl rfl) ⟨hy0, hy1⟩).2.1
  have HX := Lib.hid hx; clear hx
  have HY := Lib.hid hy; clear hy
  go_enter Tryz.func57, Tryz.ntmps57
  go_wp2_with fail
  refine (ssigned_any _ x _ HX.out).mono ?_
  rintro e w' ⟨rfl, rfl⟩
  go_wp2_with fail
  refine (ssigned_any _ y _ HY.out).mono ?_
  rintro e w' ⟨rfl, rfl⟩
  go_wp2_with fail
  refine (swrap_any _ _ _ (.inl rfl)).mono ?_
  rintro e w' ⟨rfl, rfl⟩
  go_wp2_with fail
  go_ret
  exact ⟨ret_int (rfl), rfl⟩
theorem sdo4_2 (x y : Int) (w : World) (hx0 : 0 ≤ x) (hx1 : x < 16) (hy0 : 0 ≤ y) (hy1 : y < 16) : Calls Tryz.prog 57 #[.int .i64 2, .int .i64 4, .int .i64 x, .int .i64 y] w fun e w' => e = .returned (.int .i64 (Wd.doOp 2 4 x y)) ∧ w = w' := by
  have hx : Wd.IsWord 4 x := ⟨.inl rfl, hx0, hx1⟩
  have hy : Wd.IsWord 4 y := ⟨.inl rfl, hy0, hy1⟩
  have s1a : -8 ≤ Wd.sg 4 x := (Wd.sg_range (.inl rfl) ⟨hx0, hx1⟩).1
  have s1b : Wd.sg 4 x < 8 := (Wd.sg_range (.inl rfl) ⟨hx0, hx1⟩).2.1
  have s2a : -8 ≤ Wd.sg 4 y := (Wd.sg_range (.inl rfl) ⟨hy0, hy1⟩).1
  have s2b : Wd.sg 4 y < 8 := (Wd.sg_range (.inl rfl) ⟨hy0, hy1⟩).2.1
  have m0 : 0 ≤ x * y := Int.mul_nonneg hx0 hy0
  have m1 : x * y ≤ 16 * 16 := Int.mul_le_mul (by omega) (by omega) hy0 (by decide)
  have HX := Lib.hid hx; clear hx
  have HY := Lib.hid hy; clear hy
  go_enter Tryz.func57, Tryz.ntmps57
  go_wp2_with fail
  refine (ssigned_any _ x _ HX.out).mono ?_
  rintro e w' ⟨rfl, rfl⟩
  go_wp2_with fail
  refine (ssigned_any _ y _ HY.out).mono ?_
  rintro e w' ⟨rfl, rfl⟩
  go_wp2_with fail
  refine (swrap_any _ _ _ (.inl rfl)).mono ?_
  rintro e w' ⟨rfl, rfl⟩
  go_wp2_with fail
  go_ret
  exact ⟨ret_int (rfl), rfl⟩
theorem sdo4_3 (x y : Int) (w : World) (hx0 : 0 ≤ x) (hx1 : x < 16) (hy0 : 0 ≤ y) (hy1 : y < 16) : Calls Tryz.prog 57 #[.int .i64 3, .int .i64 4, .int .i64 x, .int .i64 y] w fun e w' => e = .returned (.int .i64 (Wd.doOp 3 4 x y)) ∧ w = w' := by
  have hx : Wd.IsWord 4 x := ⟨.inl rfl, hx0, hx1⟩
  have hy : Wd.IsWord 4 y := ⟨.inl rfl, hy0, hy1⟩
  have s1a : -8 ≤ Wd.sg 4 x := (Wd.sg_range (.inl rfl) ⟨hx0, hx1⟩).1
  have s1b : Wd.sg 4 x < 8 := (Wd.sg_range (.inl rfl) ⟨hx0, hx1⟩).2.1
  have s2a : -8 ≤ Wd.sg 4 y := (Wd.sg_range (.inl rfl) ⟨hy0, hy1⟩).1
  have s2b : Wd.sg 4 y < 8 := (Wd.sg_range (.inl rfl) ⟨hy0, hy1⟩).2.1
  have HX := Lib.hid hx; clear hx
  have HY := Lib.hid hy; clear hy
  go_enter Tryz.func57, Tryz.ntmps57
  go_wp2_with fail
  refine (ssigned_any _ x _ HX.out).mono ?_
  rintro e w' ⟨rfl, rfl⟩
  go_wp2_with fail
  refine (ssigned_any _ y _ HY.out).mono ?_
  rintro e w' ⟨rfl, rfl⟩
  go_wp2_with fail
  go_ret
  exact ⟨ret_int ((Bts.three_i64 x y hx0 (by omega) hy0 (by omega)).1), rfl⟩
theorem sdo4_4 (x y : Int) (w : World) (hx0 : 0 ≤ x) (hx1 : x < 16) (hy0 : 0 ≤ y) (hy1 : y < 16) : Calls Tryz.prog 57 #[.int .i64 4, .int .i64 4, .int .i64 x, .int .i64 y] w fun e w' => e = .returned (.int .i64 (Wd.doOp 4 4 x y)) ∧ w = w' := by
  have hx : Wd.IsWord 4 x := ⟨.inl rfl, hx0, hx1⟩
  have hy : Wd.IsWord 4 y := ⟨.inl rfl, hy0, hy1⟩
  have s1a : -8 ≤ Wd.sg 4 x := (Wd.sg_range (.inl rfl) ⟨hx0, hx1⟩).1
  have s1b : Wd.sg 4 x < 8 := (Wd.sg_range (.inl rfl) ⟨hx0, hx1⟩).2.1
  have s2a : -8 ≤ Wd.sg 4 y := (Wd.sg_range (.inl rfl) ⟨hy0, hy1⟩).1
  have s2b : Wd.sg 4 y < 8 := (Wd.sg_range (.inl rfl) ⟨hy0, hy1⟩).2.1
  have HX := Lib.hid hx; clear hx
  have HY := Lib.hid hy; clear hy
  go_enter Tryz.func57, Tryz.ntmps57
  go_wp2_with fail
  refine (ssigned_any _ x _ HX.out).mono ?_
  rintro e w' ⟨rfl, rfl⟩
  go_wp2_with fail
  refine (ssigned_any _ y _ HY.out).mono ?_
  rintro e w' ⟨rfl, rfl⟩
  go_wp2_with fail
  go_ret
  exact ⟨ret_int ((Bts.three_i64 x y hx0 (by omega) hy0 (by omega)).2.1), rfl⟩
theorem sdo4_5 (x y : Int) (w : World) (hx0 : 0 ≤ x) (hx1 : x < 16) (hy0 : 0 ≤ y) (hy1 : y < 16) : Calls Tryz.prog 57 #[.int .i64 5, .int .i64 4, .int .i64 x, .int .i64 y] w fun e w' => e = .returned (.int .i64 (Wd.doOp 5 4 x y)) ∧ w = w' := by
  have hx : Wd.IsWord 4 x := ⟨.inl rfl, hx0, hx1⟩
  have hy : Wd.IsWord 4 y := ⟨.inl rfl, hy0, hy1⟩
  have s1a : -8 ≤ Wd.sg 4 x := (Wd.sg_range (.inl rfl) ⟨hx0, hx1⟩).1
  have s1b : Wd.sg 4 x < 8 := (Wd.sg_range (.inl rfl) ⟨hx0, hx1⟩).2.1
  have s2a : -8 ≤ Wd.sg 4 y := (Wd.sg_range (.inl rfl) ⟨hy0, hy1⟩).1
  have s2b : Wd.sg 4 y < 8 := (Wd.sg_range (.inl rfl) ⟨hy0, hy1⟩).2.1
  have HX := Lib.hid hx; clear hx
  have HY := Lib.hid hy; clear hy
  go_enter Tryz.func57, Tryz.ntmps57
  go_wp2_with fail
  refine (ssigned_any _ x _ HX.out).mono ?_
  rintro e w' ⟨rfl, rfl⟩
  go_wp2_with fail
  refine (ssigned_any _ y _ HY.out).mono ?_
  rintro e w' ⟨rfl, rfl⟩
  go_wp2_with fail
  go_ret
  exact ⟨ret_int ((Bts.three_i64 x y hx0 (by omega) hy0 (by omega)).2.2), rfl⟩
theorem sdo4_6 (x y : Int) (w : World) (hx0 : 0 ≤ x) (hx1 : x < 16) (hy0 : 0 ≤ y) (hy1 : y < 16) : Calls Tryz.prog 57 #[.int .i64 6, .int .i64 4, .int .i64 x, .int .i64 y] w fun e w' => e = .returned (.int .i64 (Wd.doOp 6 4 x y)) ∧ w = w' := by
  have hx : Wd.IsWord 4 x := ⟨.inl rfl, hx0, hx1⟩
  have hy : Wd.IsWord 4 y := ⟨.inl rfl, hy0, hy1⟩
  have s1a : -8 ≤ Wd.sg 4 x := (Wd.sg_range (.inl rfl) ⟨hx0, hx1⟩).1
  have s1b : Wd.sg 4 x < 8 := (Wd.sg_range (.inl rfl) ⟨hx0, hx1⟩).2.1
  have s2a : -8 ≤ Wd.sg 4 y := (Wd.sg_range (.inl rfl) ⟨hy0, hy1⟩).1
  have s2b : Wd.sg 4 y < 8 := (Wd.sg_range (.inl rfl) ⟨hy0, hy1⟩).2.1
  have HX := Lib.hid hx; clear hx
  have HY := Lib.hid hy; clear hy
  go_enter Tryz.func57, Tryz.ntmps57
  go_wp2_with fail
  refine (ssigned_any _ x _ HX.out).mono ?_
  rintro e w' ⟨rfl, rfl⟩
  go_wp2_with fail
  refine (ssigned_any _ y _ HY.out).mono ?_
  rintro e w' ⟨rfl, rfl⟩
  go_wp2_with fail
  refine (min_any _ _ _).mono ?_
  rintro e w' ⟨rfl, rfl⟩
  go_wp2_with fail
  go_ret
  exact ⟨ret_int (by simp only [Wd.doOp, reduceIte, Int.reduceEq, mn]; omega), rfl⟩
theorem sdo4_7 (x y : Int) (w : World) (hx0 : 0 ≤ x) (hx1 : x < 16) (hy0 : 0 ≤ y) (hy1 : y < 16) : Calls Tryz.prog 57 #[.int .i64 7, .int .i64 4, .int .i64 x, .int .i64 y] w fun e w' => e = .returned (.int .i64 (Wd.doOp 7 4 x y)) ∧ w = w' := by
  have hx : Wd.IsWord 4 x := ⟨.inl rfl, hx0, hx1⟩
  have hy : Wd.IsWord 4 y := ⟨.inl rfl, hy0, hy1⟩
  have s1a : -8 ≤ Wd.sg 4 x := (Wd.sg_range (.inl rfl) ⟨hx0, hx1⟩).1
  have s1b : Wd.sg 4 x < 8 := (Wd.sg_range (.inl rfl) ⟨hx0, hx1⟩).2.1
  have s2a : -8 ≤ Wd.sg 4 y := (Wd.sg_range (.inl rfl) ⟨hy0, hy1⟩).1
  have s2b : Wd.sg 4 y < 8 := (Wd.sg_range (.inl rfl) ⟨hy0, hy1⟩).2.1
  have HX := Lib.hid hx; clear hx
  have HY := Lib.hid hy; clear hy
  go_enter Tryz.func57, Tryz.ntmps57
  go_wp2_with fail
  refine (ssigned_any _ x _ HX.out).mono ?_
  rintro e w' ⟨rfl, rfl⟩
  go_wp2_with fail
  refine (ssigned_any _ y _ HY.out).mono ?_
  rintro e w' ⟨rfl, rfl⟩
  go_wp2_with fail
  refine (max_any _ _ _).mono ?_
  rintro e w' ⟨rfl, rfl⟩
  go_wp2_with fail
  go_ret
  exact ⟨ret_int (by simp only [Wd.doOp, reduceIte, Int.reduceEq, mx]; omega), rfl⟩
theorem sdo4_8 (x y : Int) (w : World) (hx0 : 0 ≤ x) (hx1 : x < 16) (hy0 : 0 ≤ y) (hy1 : y < 16) : Calls Tryz.prog 57 #[.int .i64 8, .int .i64 4, .int .i64 x, .int .i64 y] w fun e w' => e = .returned (.int .i64 (Wd.doOp 8 4 x y)) ∧ w = w' := by
  have hx : Wd.IsWord 4 x := ⟨.inl rfl, hx0, hx1⟩
  have hy : Wd.IsWord 4 y := ⟨.inl rfl, hy0, hy1⟩
  have s1a : -8 ≤ Wd.sg 4 x := (Wd.sg_range (.inl rfl) ⟨hx0, hx1⟩).1
  have s1b : Wd.sg 4 x < 8 := (Wd.sg_range (.inl rfl) ⟨hx0, hx1⟩).2.1
  have s2a : -8 ≤ Wd.sg 4 y := (Wd.sg_range (.inl rfl) ⟨hy0, hy1⟩).1
  have s2b : Wd.sg 4 y < 8 := (Wd.sg_range (.inl rfl) ⟨hy0, hy1⟩).2.1
  have HX := Lib.hid hx; clear hx
  have HY := Lib.hid hy; clear hy
  go_enter Tryz.func57, Tryz.ntmps57
  go_wp2_with fail
  refine (ssigned_any _ x _ HX.out).mono ?_
  rintro e w' ⟨rfl, rfl⟩
  go_wp2_with fail
  refine (ssigned_any _ y _ HY.out).mono ?_
  rintro e w' ⟨rfl, rfl⟩
  go_wp2_with fail
  refine (min_any _ _ _).mono ?_
  rintro e w' ⟨rfl, rfl⟩
  go_wp2_with fail
  refine (swrap_any _ _ _ (.inl rfl)).mono ?_
  rintro e w' ⟨rfl, rfl⟩
  go_wp2_with fail
  go_ret
  exact ⟨ret_int (sfin8 4 x y (.inl rfl) ⟨hx0, hx1⟩ ⟨hy0, hy1⟩), rfl⟩
theorem sdo4_9 (x y : Int) (w : World) (hx0 : 0 ≤ x) (hx1 : x < 16) (hy0 : 0 ≤ y) (hy1 : y < 16) : Calls Tryz.prog 57 #[.int .i64 9, .int .i64 4, .int .i64 x, .int .i64 y] w fun e w' => e = .returned (.int .i64 (Wd.doOp 9 4 x y)) ∧ w = w' := by
  have hx : Wd.IsWord 4 x := ⟨.inl rfl, hx0, hx1⟩
  have hy : Wd.IsWord 4 y := ⟨.inl rfl, hy0, hy1⟩
  have s1a : -8 ≤ Wd.sg 4 x := (Wd.sg_range (.inl rfl) ⟨hx0, hx1⟩).1
  have s1b : Wd.sg 4 x < 8 := (Wd.sg_range (.inl rfl) ⟨hx0, hx1⟩).2.1
  have s2a : -8 ≤ Wd.sg 4 y := (Wd.sg_range (.inl rfl) ⟨hy0, hy1⟩).1
  have s2b : Wd.sg 4 y < 8 := (Wd.sg_range (.inl rfl) ⟨hy0, hy1⟩).2.1
  have HX := Lib.hid hx; clear hx
  have HY := Lib.hid hy; clear hy
  go_enter Tryz.func57, Tryz.ntmps57
  go_wp2_with fail
  refine (ssigned_any _ x _ HX.out).mono ?_
  rintro e w' ⟨rfl, rfl⟩
  go_wp2_with fail
  refine (ssigned_any _ y _ HY.out).mono ?_
  rintro e w' ⟨rfl, rfl⟩
  go_wp2_with fail
  refine (max_any _ _ _).mono ?_
  rintro e w' ⟨rfl, rfl⟩
  go_wp2_with fail
  refine (swrap_any _ _ _ (.inl rfl)).mono ?_
  rintro e w' ⟨rfl, rfl⟩
  go_wp2_with fail
  go_ret
  exact ⟨ret_int (sfin9 4 x y (.inl rfl) ⟨hx0, hx1⟩ ⟨hy0, hy1⟩), rfl⟩
theorem sdo4_10 (x y : Int) (w : World) (hx0 : 0 ≤ x) (hx1 : x < 16) (hy0 : 0 ≤ y) (hy1 : y < 16) : Calls Tryz.prog 57 #[.int .i64 10, .int .i64 4, .int .i64 x, .int .i64 y] w fun e w' => e = .returned (.int .i64 (Wd.doOp 10 4 x y)) ∧ w = w' := by
  have hx : Wd.IsWord 4 x := ⟨.inl rfl, hx0, hx1⟩
  have hy : Wd.IsWord 4 y := ⟨.inl rfl, hy0, hy1⟩
  have s1a : -8 ≤ Wd.sg 4 x := (Wd.sg_range (.inl rfl) ⟨hx0, hx1⟩).1
  have s1b : Wd.sg 4 x < 8 := (Wd.sg_range (.inl rfl) ⟨hx0, hx1⟩).2.1
  have s2a : -8 ≤ Wd.sg 4 y := (Wd.sg_range (.inl rfl) ⟨hy0, hy1⟩).1
  have s2b : Wd.sg 4 y < 8 := (Wd.sg_range (.inl rfl) ⟨hy0, hy1⟩).2.1
  have HX := Lib.hid hx; clear hx
  have HY := Lib.hid hy; clear hy
  go_enter Tryz.func57, Tryz.ntmps57
  go_wp2_with fail
  refine (ssigned_any _ x _ HX.out).mono ?_
  rintro e w' ⟨rfl, rfl⟩
  go_wp2_with fail
  refine (ssigned_any _ y _ HY.out).mono ?_
  rintro e w' ⟨rfl, rfl⟩
  go_wp2_with fail
  refine (min_any _ _ _).mono ?_
  rintro e w' ⟨rfl, rfl⟩
  go_wp2_with fail
  go_ret
  exact ⟨ret_int (show mn (x + y) 15 = min (x + y) 15 by unfold mn; omega), rfl⟩
theorem sdo4_11 (x y : Int) (w : World) (hx0 : 0 ≤ x) (hx1 : x < 16) (hy0 : 0 ≤ y) (hy1 : y < 16) : Calls Tryz.prog 57 #[.int .i64 11, .int .i64 4, .int .i64 x, .int .i64 y] w fun e w' => e = .returned (.int .i64 (Wd.doOp 11 4 x y)) ∧ w = w' := by
  have hx : Wd.IsWord 4 x := ⟨.inl rfl, hx0, hx1⟩
  have hy : Wd.IsWord 4 y := ⟨.inl rfl, hy0, hy1⟩
  have s1a : -8 ≤ Wd.sg 4 x := (Wd.sg_range (.inl rfl) ⟨hx0, hx1⟩).1
  have s1b : Wd.sg 4 x < 8 := (Wd.sg_range (.inl rfl) ⟨hx0, hx1⟩).2.1
  have s2a : -8 ≤ Wd.sg 4 y := (Wd.sg_range (.inl rfl) ⟨hy0, hy1⟩).1
  have s2b : Wd.sg 4 y < 8 := (Wd.sg_range (.inl rfl) ⟨hy0, hy1⟩).2.1
  have HX := Lib.hid hx; clear hx
  have HY := Lib.hid hy; clear hy
  go_enter Tryz.func57, Tryz.ntmps57
  go_wp2_with fail
  refine (ssigned_any _ x _ HX.out).mono ?_
  rintro e w' ⟨rfl, rfl⟩
  go_wp2_with fail
  refine (ssigned_any _ y _ HY.out).mono ?_
  rintro e w' ⟨rfl, rfl⟩
  go_wp2_with fail
  refine (btw_any _ _ _ _).mono ?_
  rintro e w' ⟨rfl, rfl⟩
  go_wp2_with fail
  refine (swrap_any _ _ _ (.inl rfl)).mono ?_
  rintro e w' ⟨rfl, rfl⟩
  go_wp2_with fail
  go_ret
  exact ⟨ret_int (congrArg (Wd.wr 4) (btw_cl 4 (Wd.sg 4 x + Wd.sg 4 y) (by decide))), rfl⟩
theorem sdo4_12 (x y : Int) (w : World) (hx0 : 0 ≤ x) (hx1 : x < 16) (hy0 : 0 ≤ y) (hy1 : y < 16) : Calls Tryz.prog 57 #[.int .i64 12, .int .i64 4, .int .i64 x, .int .i64 y] w fun e w' => e = .returned (.int .i64 (Wd.doOp 12 4 x y)) ∧ w = w' := by
  have hx : Wd.IsWord 4 x := ⟨.inl rfl, hx0, hx1⟩
  have hy : Wd.IsWord 4 y := ⟨.inl rfl, hy0, hy1⟩
  have s1a : -8 ≤ Wd.sg 4 x := (Wd.sg_range (.inl rfl) ⟨hx0, hx1⟩).1
  have s1b : Wd.sg 4 x < 8 := (Wd.sg_range (.inl rfl) ⟨hx0, hx1⟩).2.1
  have s2a : -8 ≤ Wd.sg 4 y := (Wd.sg_range (.inl rfl) ⟨hy0, hy1⟩).1
  have s2b : Wd.sg 4 y < 8 := (Wd.sg_range (.inl rfl) ⟨hy0, hy1⟩).2.1
  have HX := Lib.hid hx; clear hx
  have HY := Lib.hid hy; clear hy
  go_enter Tryz.func57, Tryz.ntmps57
  go_wp2_with fail
  refine (ssigned_any _ x _ HX.out).mono ?_
  rintro e w' ⟨rfl, rfl⟩
  go_wp2_with fail
  refine (ssigned_any _ y _ HY.out).mono ?_
  rintro e w' ⟨rfl, rfl⟩
  go_wp2_with fail
  refine (max_any _ _ _).mono ?_
  rintro e w' ⟨rfl, rfl⟩
  go_wp2_with fail
  go_ret
  exact ⟨ret_int (show mx (x - y) 0 = max (x - y) 0 by unfold mx; omega), rfl⟩
theorem sdo4_13 (x y : Int) (w : World) (hx0 : 0 ≤ x) (hx1 : x < 16) (hy0 : 0 ≤ y) (hy1 : y < 16) : Calls Tryz.prog 57 #[.int .i64 13, .int .i64 4, .int .i64 x, .int .i64 y] w fun e w' => e = .returned (.int .i64 (Wd.doOp 13 4 x y)) ∧ w = w' := by
  have hx : Wd.IsWord 4 x := ⟨.inl rfl, hx0, hx1⟩
  have hy : Wd.IsWord 4 y := ⟨.inl rfl, hy0, hy1⟩
  have s1a : -8 ≤ Wd.sg 4 x := (Wd.sg_range (.inl rfl) ⟨hx0, hx1⟩).1
  have s1b : Wd.sg 4 x < 8 := (Wd.sg_range (.inl rfl) ⟨hx0, hx1⟩).2.1
  have s2a : -8 ≤ Wd.sg 4 y := (Wd.sg_range (.inl rfl) ⟨hy0, hy1⟩).1
  have s2b : Wd.sg 4 y < 8 := (Wd.sg_range (.inl rfl) ⟨hy0, hy1⟩).2.1
  have HX := Lib.hid hx; clear hx
  have HY := Lib.hid hy; clear hy
  go_enter Tryz.func57, Tryz.ntmps57
  go_wp2_with fail
  refine (ssigned_any _ x _ HX.out).mono ?_
  rintro e w' ⟨rfl, rfl⟩
  go_wp2_with fail
  refine (ssigned_any _ y _ HY.out).mono ?_
  rintro e w' ⟨rfl, rfl⟩
  go_wp2_with fail
  refine (btw_any _ _ _ _).mono ?_
  rintro e w' ⟨rfl, rfl⟩
  go_wp2_with fail
  refine (swrap_any _ _ _ (.inl rfl)).mono ?_
  rintro e w' ⟨rfl, rfl⟩
  go_wp2_with fail
  go_ret
  exact ⟨ret_int (congrArg (Wd.wr 4) (btw_cl 4 (Wd.sg 4 x - Wd.sg 4 y) (by decide))), rfl⟩
theorem sdo4_14 (x y : Int) (w : World) (hx0 : 0 ≤ x) (hx1 : x < 16) (hy0 : 0 ≤ y) (hy1 : y < 16) : Calls Tryz.prog 57 #[.int .i64 14, .int .i64 4, .int .i64 x, .int .i64 y] w fun e w' => e = .returned (.int .i64 (Wd.doOp 14 4 x y)) ∧ w = w' := by
  have hx : Wd.IsWord 4 x := ⟨.inl rfl, hx0, hx1⟩
  have hy : Wd.IsWord 4 y := ⟨.inl rfl, hy0, hy1⟩
  have s1a : -8 ≤ Wd.sg 4 x := (Wd.sg_range (.inl rfl) ⟨hx0, hx1⟩).1
  have s1b : Wd.sg 4 x < 8 := (Wd.sg_range (.inl rfl) ⟨hx0, hx1⟩).2.1
  have s2a : -8 ≤ Wd.sg 4 y := (Wd.sg_range (.inl rfl) ⟨hy0, hy1⟩).1
  have s2b : Wd.sg 4 y < 8 := (Wd.sg_range (.inl rfl) ⟨hy0, hy1⟩).2.1
  have HX := Lib.hid hx; clear hx
  have HY := Lib.hid hy; clear hy
  go_enter Tryz.func57, Tryz.ntmps57
  go_wp2_with fail
  refine (ssigned_any _ x _ HX.out).mono ?_
  rintro e w' ⟨rfl, rfl⟩
  go_wp2_with fail
  refine (ssigned_any _ y _ HY.out).mono ?_
  rintro e w' ⟨rfl, rfl⟩
  go_wp2_with fail
  go_ret
  exact ⟨ret_int (rfl), rfl⟩
theorem sdo4_15 (x y : Int) (w : World) (hx0 : 0 ≤ x) (hx1 : x < 16) (hy0 : 0 ≤ y) (hy1 : y < 16) : Calls Tryz.prog 57 #[.int .i64 15, .int .i64 4, .int .i64 x, .int .i64 y] w fun e w' => e = .returned (.int .i64 (Wd.doOp 15 4 x y)) ∧ w = w' := by
  have hx : Wd.IsWord 4 x := ⟨.inl rfl, hx0, hx1⟩
  have hy : Wd.IsWord 4 y := ⟨.inl rfl, hy0, hy1⟩
  have s1a : -8 ≤ Wd.sg 4 x := (Wd.sg_range (.inl rfl) ⟨hx0, hx1⟩).1
  have s1b : Wd.sg 4 x < 8 := (Wd.sg_range (.inl rfl) ⟨hx0, hx1⟩).2.1
  have s2a : -8 ≤ Wd.sg 4 y := (Wd.sg_range (.inl rfl) ⟨hy0, hy1⟩).1
  have s2b : Wd.sg 4 y < 8 := (Wd.sg_range (.inl rfl) ⟨hy0, hy1⟩).2.1
  have k0 : 0 ≤ y % 4 := by omega
  have k1 : y % 4 < 4 := by omega
  have q0 : 0 ≤ x * 2 ^ (y % 4).toNat := Int.mul_nonneg hx0 (Int.le_of_lt (Int.pow_pos (by decide)))
  have HX := Lib.hid hx; clear hx
  have HY := Lib.hid hy; clear hy
  go_enter Tryz.func57, Tryz.ntmps57
  go_wp2_with fail
  refine (ssigned_any _ x _ HX.out).mono ?_
  rintro e w' ⟨rfl, rfl⟩
  go_wp2_with fail
  refine (ssigned_any _ y _ HY.out).mono ?_
  rintro e w' ⟨rfl, rfl⟩
  go_wp2_with fail
  refine (swrap_any _ _ _ (.inl rfl)).mono ?_
  rintro e w' ⟨rfl, rfl⟩
  go_wp2_with fail
  go_ret
  exact ⟨ret_int (wr_wrap64 4 _ (.inl rfl)), rfl⟩
theorem sdo4_16 (x y : Int) (w : World) (hx0 : 0 ≤ x) (hx1 : x < 16) (hy0 : 0 ≤ y) (hy1 : y < 16) : Calls Tryz.prog 57 #[.int .i64 16, .int .i64 4, .int .i64 x, .int .i64 y] w fun e w' => e = .returned (.int .i64 (Wd.doOp 16 4 x y)) ∧ w = w' := by
  have hx : Wd.IsWord 4 x := ⟨.inl rfl, hx0, hx1⟩
  have hy : Wd.IsWord 4 y := ⟨.inl rfl, hy0, hy1⟩
  have s1a : -8 ≤ Wd.sg 4 x := (Wd.sg_range (.inl rfl) ⟨hx0, hx1⟩).1
  have s1b : Wd.sg 4 x < 8 := (Wd.sg_range (.inl rfl) ⟨hx0, hx1⟩).2.1
  have s2a : -8 ≤ Wd.sg 4 y := (Wd.sg_range (.inl rfl) ⟨hy0, hy1⟩).1
  have s2b : Wd.sg 4 y < 8 := (Wd.sg_range (.inl rfl) ⟨hy0, hy1⟩).2.1
  have k0 : 0 ≤ y % 4 := by omega
  have k1 : y % 4 < 4 := by omega
  have HX := Lib.hid hx; clear hx
  have HY := Lib.hid hy; clear hy
  go_enter Tryz.func57, Tryz.ntmps57
  go_wp2_with fail
  refine (ssigned_any _ x _ HX.out).mono ?_
  rintro e w' ⟨rfl, rfl⟩
  go_wp2_with fail
  refine (ssigned_any _ y _ HY.out).mono ?_
  rintro e w' ⟨rfl, rfl⟩
  go_wp2_with fail
  go_ret
  exact ⟨ret_int (rfl), rfl⟩
theorem sdo4_17 (x y : Int) (w : World) (hx0 : 0 ≤ x) (hx1 : x < 16) (hy0 : 0 ≤ y) (hy1 : y < 16) : Calls Tryz.prog 57 #[.int .i64 17, .int .i64 4, .int .i64 x, .int .i64 y] w fun e w' => e = .returned (.int .i64 (Wd.doOp 17 4 x y)) ∧ w = w' := by
  have hx : Wd.IsWord 4 x := ⟨.inl rfl, hx0, hx1⟩
  have hy : Wd.IsWord 4 y := ⟨.inl rfl, hy0, hy1⟩
  have s1a : -8 ≤ Wd.sg 4 x := (Wd.sg_range (.inl rfl) ⟨hx0, hx1⟩).1
  have s1b : Wd.sg 4 x < 8 := (Wd.sg_range (.inl rfl) ⟨hx0, hx1⟩).2.1
  have s2a : -8 ≤ Wd.sg 4 y := (Wd.sg_range (.inl rfl) ⟨hy0, hy1⟩).1
  have s2b : Wd.sg 4 y < 8 := (Wd.sg_range (.inl rfl) ⟨hy0, hy1⟩).2.1
  have k0 : 0 ≤ y % 4 := by omega
  have k1 : y % 4 < 4 := by omega
  have HX := Lib.hid hx; clear hx
  have HY := Lib.hid hy; clear hy
  go_enter Tryz.func57, Tryz.ntmps57
  go_wp2_with fail
  refine (ssigned_any _ x _ HX.out).mono ?_
  rintro e w' ⟨rfl, rfl⟩
  go_wp2_with fail
  refine (ssigned_any _ y _ HY.out).mono ?_
  rintro e w' ⟨rfl, rfl⟩
  go_wp2_with fail
  refine (swrap_any _ _ _ (.inl rfl)).mono ?_
  rintro e w' ⟨rfl, rfl⟩
  go_wp2_with fail
  go_ret
  exact ⟨ret_int (rfl), rfl⟩
theorem sdo4 (op x y : Int) (w : World) (h0 : 0 ≤ op) (h1 : op ≤ 17) (hx0 : 0 ≤ x) (hx1 : x < 16) (hy0 : 0 ≤ y) (hy1 : y < 16) : Calls Tryz.prog 57 #[.int .i64 op, .int .i64 4, .int .i64 x, .int .i64 y] w fun e w' => e = .returned (.int .i64 (Wd.doOp op 4 x y)) ∧ w = w' := by
  rcases Wd.op_cases h0 h1 with rfl | rfl | rfl | rfl | rfl | rfl | rfl | rfl | rfl | rfl | rfl | rfl | rfl | rfl | rfl | rfl | rfl | rfl
  · exact sdo4_0 x y w hx0 hx1 hy0 hy1
  · exact sdo4_1 x y w hx0 hx1 hy0 hy1
  · exact sdo4_2 x y w hx0 hx1 hy0 hy1
  · exact sdo4_3 x y w hx0 hx1 hy0 hy1
  · exact sdo4_4 x y w hx0 hx1 hy0 hy1
  · exact sdo4_5 x y w hx0 hx1 hy0 hy1
  · exact sdo4_6 x y w hx0 hx1 hy0 hy1
  · exact sdo4_7 x y w hx0 hx1 hy0 hy1
  · exact sdo4_8 x y w hx0 hx1 hy0 hy1
  · exact sdo4_9 x y w hx0 hx1 hy0 hy1
  · exact sdo4_10 x y w hx0 hx1 hy0 hy1
  · exact sdo4_11 x y w hx0 hx1 hy0 hy1
  · exact sdo4_12 x y w hx0 hx1 hy0 hy1
  · exact sdo4_13 x y w hx0 hx1 hy0 hy1
  · exact sdo4_14 x y w hx0 hx1 hy0 hy1
  · exact sdo4_15 x y w hx0 hx1 hy0 hy1
  · exact sdo4_16 x y w hx0 hx1 hy0 hy1
  · exact sdo4_17 x y w hx0 hx1 hy0 hy1
end Go.Proofs.YteggioppoldaaaaGreatDoor.Wds
