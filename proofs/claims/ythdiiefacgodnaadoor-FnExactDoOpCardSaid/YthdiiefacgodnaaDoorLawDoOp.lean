/-
  The walk of the law of DoOp: the code's own answer is the model's, for all arguments.
-/
import Derived.Test.YthdiiefacgodnaaDoorDoOp
import Derived.Test.YthdiiefacgodnaaDoorSdo4
import Derived.Test.YthdiiefacgodnaaDoorSdo8
import Derived.Test.YthdiiefacgodnaaDoorSdo16
namespace Go.Proofs.YthdiiefacgodnaaDoor.Wds
open Go.RowKit Go.Proofs.YthdiiefacgodnaaDoor.Err
set_option linter.unusedVariables false

theorem sdo_any (op b x y : Int) (w : World) (h0 : 0 ≤ op) (h1 : op ≤ 17) (hx : Wd.IsWord b x) (hy : Wd.IsWord b y) : Calls Tryd.prog 53 #[.int .i64 op, .int .i64 b, .int .i64 x, .int .i64 y] w fun e w' => e = .returned (.int .i64 (Wd.doOp op b x y)) ∧ w = w' := by
  obtain ⟨hb, hx0, hx1⟩ := hx
  obtain ⟨_, hy0, hy1⟩ := hy
  rcases hb with rfl | rfl | rfl
  · exact sdo4 op x y w h0 h1 hx0 hx1 hy0 hy1
  · exact sdo8 op x y w h0 h1 hx0 hx1 hy0 hy1
  · exact sdo16 op x y w h0 h1 hx0 hx1 hy0 hy1
theorem sDoOp_yes (op b x y : Int) (w : World) (h0 : 0 ≤ op) (h1 : op ≤ 17) (hx : Wd.IsWord b x) (hy : Wd.IsWord b y) : Calls Tryd.prog 27 #[.int .i64 op, .int .i64 b, .int .i64 x, .int .i64 y] w fun e w' => e = .returned (.tuple #[.int .i64 (Wd.doOp op b x y), .bool true]) ∧ w = w' := by
  have C := Lib.hid (sdo_any op b x y w h0 h1 hx hy)
  have HX := Lib.hid hx; clear hx
  have HY := Lib.hid hy; clear hy
  go_enter Tryd.func27, Tryd.ntmps27
  go_wp2_with fail
  refine (sop_yes _ _ ⟨h0, h1⟩).mono ?_
  rintro e w' ⟨rfl, rfl⟩
  go_wp2_with fail
  refine (sword_yes _ _ _ HX.out).mono ?_
  rintro e w' ⟨rfl, rfl⟩
  go_wp2_with fail
  refine (sword_yes _ _ _ HY.out).mono ?_
  rintro e w' ⟨rfl, rfl⟩
  go_wp2_with fail
  refine C.out.mono ?_
  rintro e w' ⟨rfl, rfl⟩
  go_wp2_with fail
  go_ret2
  exact ⟨rfl, rfl⟩
theorem sDoOp_no (op b x y : Int) (w : World) (h : ¬ (0 ≤ op ∧ op ≤ 17 ∧ Wd.IsWord b x ∧ Wd.IsWord b y)) : Calls Tryd.prog 27 #[.int .i64 op, .int .i64 b, .int .i64 x, .int .i64 y] w fun e w' => e = .returned (.tuple #[.int .i64 0, .bool false]) ∧ w = w' := by
  by_cases ho : 0 ≤ op ∧ op ≤ 17
  · by_cases hx : Wd.IsWord b x
    · have hy : ¬ Wd.IsWord b y := fun hy => h ⟨ho.1, ho.2, hx, hy⟩
      go_enter Tryd.func27, Tryd.ntmps27
      go_wp2_with fail
      refine (sop_yes _ _ ho).mono ?_
      rintro e w' ⟨rfl, rfl⟩
      go_wp2_with fail
      refine (sword_yes _ _ _ hx).mono ?_
      rintro e w' ⟨rfl, rfl⟩
      go_wp2_with fail
      refine (sword_no _ _ _ hy).mono ?_
      rintro e w' ⟨rfl, rfl⟩
      go_wp2_with fail
      go_ret2
      exact ⟨rfl, rfl⟩
    · go_enter Tryd.func27, Tryd.ntmps27
      go_wp2_with fail
      refine (sop_yes _ _ ho).mono ?_
      rintro e w' ⟨rfl, rfl⟩
      go_wp2_with fail
      refine (sword_no _ _ _ hx).mono ?_
      rintro e w' ⟨rfl, rfl⟩
      go_wp2_with fail
      go_ret2
      exact ⟨rfl, rfl⟩
  · go_enter Tryd.func27, Tryd.ntmps27
    go_wp2_with fail
    refine (sop_no _ _ ho).mono ?_
    rintro e w' ⟨rfl, rfl⟩
    go_wp2_with fail
    go_ret2
    exact ⟨rfl, rfl⟩
theorem law_doOp (op b x y : Int) (w : World) (hg : ErrT w) : Calls Tryd.prog 7 #[.int .i64 op, .int .i64 b, .int .i64 x, .int .i64 y] w fun e w' => e = .returned (.bool true) ∧ Below w.heap.size w w' := by
  by_cases h : 0 ≤ op ∧ op ≤ 17 ∧ Wd.IsWord b x ∧ Wd.IsWord b y
  · obtain ⟨h0, h1, hx, hy⟩ := h
    have c1 := sDoOp_yes op b x y w h0 h1 hx hy
    have c2 := doOp_yes op b x y w h0 h1 hx hy hg
    obtain ⟨r, hr⟩ : ∃ r, r = Wd.doOp op b x y := ⟨_, rfl⟩
    rw [← hr] at c1 c2
    have C1 := Lib.hid c1
    have C2 := Lib.hid c2
    clear c1 c2 hr hx hy hg h0 h1
    go_enter Tryd.func7, Tryd.ntmps7
    go_wp2_with fail
    refine C1.out.mono ?_
    rintro e w' ⟨rfl, rfl⟩
    go_wp2_with fail
    refine C2.out.mono ?_
    rintro e w' ⟨rfl, hbel⟩
    go_wp2_with fail
    go_ret
    exact ⟨rfl, hbel⟩
  · have C1 := Lib.hid (sDoOp_no op b x y w h)
    have C2 := Lib.hid (doOp_no op b x y w h)
    clear h hg
    go_enter Tryd.func7, Tryd.ntmps7
    go_wp2_with fail
    refine C1.out.mono ?_
    rintro e w' ⟨rfl, rfl⟩
    go_wp2_with fail
    refine C2.out.mono ?_
    rintro e w' ⟨rfl, hbel⟩
    go_wp2_with fail
    go_ret
    exact ⟨rfl, hbel⟩
end Go.Proofs.YthdiiefacgodnaaDoor.Wds
