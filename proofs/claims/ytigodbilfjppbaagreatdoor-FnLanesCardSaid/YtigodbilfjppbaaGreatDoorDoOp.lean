/-
  What DoOp returns and does to memory, over the translated program.
-/
import Derived.Test.YtigodbilfjppbaaGreatDoorOpr8
import Derived.Test.YtigodbilfjppbaaGreatDoorOpr16
namespace Go.Proofs.YtigodbilfjppbaaGreatDoor.Wds
open Go.RowKit Go.Proofs.YtigodbilfjppbaaGreatDoor.Err
set_option linter.unusedVariables false

theorem doOp_small (op b x y : Int) (w : World) (h0 : 0 ≤ op) (h1 : op ≤ 17) (hb : b = 4 ∨ b = 8) (hx : Wd.IsWord b x) (hy : Wd.IsWord b y) (hg : ErrT w) : Calls Tryz.prog 18 #[.int .i64 op, .int .i64 b, .int .i64 x, .int .i64 y] w fun e w' => e = .returned (.tuple #[.int .i64 (Wd.doOp op b x y), .bool true]) ∧ Below w.heap.size w w' := by
  have n16 : (b == 16) = false := by rcases hb with rfl | rfl <;> rfl
  have p2 := (Op8.okBd hb).2.1
  have hx0 : 0 ≤ x := hx.2.1
  have hx1 : x < 256 := by have := hx.2.2; omega
  have hy0 : 0 ≤ y := hy.2.1
  have hy1 : y < 256 := by have := hy.2.2; omega
  have hd := Wd.doOp_word h0 h1 (Op8.okBits hb) hx.2 hy.2
  obtain ⟨r, hr⟩ : ∃ r, r = Wd.doOp op b x y := ⟨_, rfl⟩
  have c := Op8.operate_any op b x y w h0 h1 hb hx.2 hy.2 hg
  rw [← hr] at hd c ⊢
  obtain ⟨d0, d1⟩ := hd
  have d2 : r < 256 := by omega
  have C := Lib.hid c; clear c hr hg d1
  have HX := Lib.hid hx; clear hx
  have HY := Lib.hid hy; clear hy
  go_enter Tryz.func18, Tryz.ntmps18
  go_wp2_with fail
  refine (isOp_yes _ _ h0 h1).mono ?_
  rintro e w' ⟨rfl, rfl⟩
  go_wp2_with fail
  refine (isWord_yes _ _ _ HX.out).mono ?_
  rintro e w' ⟨rfl, rfl⟩
  go_wp2_with fail
  refine (isWord_yes _ _ _ HY.out).mono ?_
  rintro e w' ⟨rfl, rfl⟩
  go_wp2_with fail
  refine C.out.mono ?_
  rintro e w' ⟨rfl, hbel⟩
  go_wp2_with fail
  go_ret2
  exact ⟨rfl, hbel⟩
theorem doOp_16 (op b x y : Int) (w : World) (h0 : 0 ≤ op) (h1 : op ≤ 17) (hb : 16 ≤ b ∧ b ≤ 16) (hx : Wd.IsWord b x) (hy : Wd.IsWord b y) (hg : ErrT w) : Calls Tryz.prog 18 #[.int .i64 op, .int .i64 b, .int .i64 x, .int .i64 y] w fun e w' => e = .returned (.tuple #[.int .i64 (Wd.doOp op b x y), .bool true]) ∧ Below w.heap.size w w' := by
  have n16 : (b == 16) = true := by simp; omega
  have p2 := (Op16.okBd hb).2.1
  have hx0 : 0 ≤ x := hx.2.1
  have hx1 : x < 65536 := by have := hx.2.2; omega
  have hy0 : 0 ≤ y := hy.2.1
  have hy1 : y < 65536 := by have := hy.2.2; omega
  have hd := Wd.doOp_word h0 h1 (Op16.okBits hb) hx.2 hy.2
  obtain ⟨r, hr⟩ : ∃ r, r = Wd.doOp op b x y := ⟨_, rfl⟩
  have c := Op16.operate_any op b x y w h0 h1 hb hx.2 hy.2 hg
  rw [← hr] at hd c ⊢
  obtain ⟨d0, d1⟩ := hd
  have d2 : r < 65536 := by omega
  have C := Lib.hid c; clear c hr hg d1
  have HX := Lib.hid hx; clear hx
  have HY := Lib.hid hy; clear hy
  go_enter Tryz.func18, Tryz.ntmps18
  go_wp2_with fail
  refine (isOp_yes _ _ h0 h1).mono ?_
  rintro e w' ⟨rfl, rfl⟩
  go_wp2_with fail
  refine (isWord_yes _ _ _ HX.out).mono ?_
  rintro e w' ⟨rfl, rfl⟩
  go_wp2_with fail
  refine (isWord_yes _ _ _ HY.out).mono ?_
  rintro e w' ⟨rfl, rfl⟩
  go_wp2_with fail
  refine C.out.mono ?_
  rintro e w' ⟨rfl, hbel⟩
  go_wp2_with fail
  go_ret2
  exact ⟨rfl, hbel⟩
theorem doOp_yes (op b x y : Int) (w : World) (h0 : 0 ≤ op) (h1 : op ≤ 17) (hx : Wd.IsWord b x) (hy : Wd.IsWord b y) (hg : ErrT w) : Calls Tryz.prog 18 #[.int .i64 op, .int .i64 b, .int .i64 x, .int .i64 y] w fun e w' => e = .returned (.tuple #[.int .i64 (Wd.doOp op b x y), .bool true]) ∧ Below w.heap.size w w' := by
  rcases hx.1 with h | h | h
  · exact doOp_small op b x y w h0 h1 (.inl h) hx hy hg
  · exact doOp_small op b x y w h0 h1 (.inr h) hx hy hg
  · exact doOp_16 op b x y w h0 h1 (by omega) hx hy hg
theorem doOp_no (op b x y : Int) (w : World) (h : ¬ (0 ≤ op ∧ op ≤ 17 ∧ Wd.IsWord b x ∧ Wd.IsWord b y)) : Calls Tryz.prog 18 #[.int .i64 op, .int .i64 b, .int .i64 x, .int .i64 y] w fun e w' => e = .returned (.tuple #[.int .i64 0, .bool false]) ∧ Below w.heap.size w w' := by
  by_cases ho : 0 ≤ op ∧ op ≤ 17
  · by_cases hx : Wd.IsWord b x
    · have hy : ¬ Wd.IsWord b y := fun hy => h ⟨ho.1, ho.2, hx, hy⟩
      go_enter Tryz.func18, Tryz.ntmps18
      go_wp2_with fail
      refine (isOp_yes _ _ ho.1 ho.2).mono ?_
      rintro e w' ⟨rfl, rfl⟩
      go_wp2_with fail
      refine (isWord_yes _ _ _ hx).mono ?_
      rintro e w' ⟨rfl, rfl⟩
      go_wp2_with fail
      refine (isWord_no _ _ _ hy).mono ?_
      rintro e w' ⟨rfl, hbel⟩
      go_wp2_with fail
      go_ret2
      exact ⟨rfl, hbel⟩
    · go_enter Tryz.func18, Tryz.ntmps18
      go_wp2_with fail
      refine (isOp_yes _ _ ho.1 ho.2).mono ?_
      rintro e w' ⟨rfl, rfl⟩
      go_wp2_with fail
      refine (isWord_no _ _ _ hx).mono ?_
      rintro e w' ⟨rfl, hbel⟩
      go_wp2_with fail
      go_ret2
      exact ⟨rfl, hbel⟩
  · go_enter Tryz.func18, Tryz.ntmps18
    go_wp2_with fail
    refine (isOp_no _ _ ho).mono ?_
    rintro e w' ⟨rfl, hbel⟩
    go_wp2_with fail
    go_ret2
    exact ⟨rfl, hbel⟩
end Go.Proofs.YtigodbilfjppbaaGreatDoor.Wds
