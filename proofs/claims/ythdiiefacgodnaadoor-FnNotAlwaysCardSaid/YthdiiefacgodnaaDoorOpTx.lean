/-
  What OpText and ReadOp return, over the translated program, where the table of texts holds what its initialiser lays (the code's own and the model's).
-/
import Derived.Test.YthdiiefacgodnaaDoorSpec
import Derived.Test.YthdiiefacgodnaaDoorOpTxMath
import Derived.WalkLawsBesides
import Derived.LoopTactic
import Derived.Laws.Rows
namespace Go.Proofs.YthdiiefacgodnaaDoor.Wds
open Go.RowKit
set_option linter.unusedVariables false

/-- The table of texts holds its eighteen texts. -/
def OpT (w : World) : Prop := ∀ i, i < 18 → w.cell? ⟨0, i, none⟩ = some (.string (Wd.tx i))
theorem OpT.lt {w : World} (h : OpT w) : 0 < w.heap.size := World.block_lt_of_cell? w _ (h 0 (by decide))
theorem OpT.below {w w' : World} {B : Nat} (h : OpT w) (hb : Below B w w') (hB : 0 < B) : OpT w' := fun i hi => (hb.cell (p := ⟨0, i, none⟩) hB).trans (h i hi)

theorem opText0 (w : World) (h : OpT w) : Calls Tryd.prog 15 #[.int .i64 0] w fun e w' => e = .returned (.tuple #[.string (Wd.tx 0), .bool true]) ∧ w = w' := by
  have hc : w.cell? ⟨0, 0, none⟩ = some (.string { data := #[97, 100, 100] }) := h 0 (by decide)
  clear h
  go_enter Tryd.func15, Tryd.ntmps15
  go_wp2_with (go_at_call 38; refine (isOp_yes _ _ (by decide) (by decide)).mono ?_; rintro e w' ⟨rfl, rfl⟩)
  go_ret2
  exact ⟨rfl, rfl⟩
theorem opText1 (w : World) (h : OpT w) : Calls Tryd.prog 15 #[.int .i64 1] w fun e w' => e = .returned (.tuple #[.string (Wd.tx 1), .bool true]) ∧ w = w' := by
  have hc : w.cell? ⟨0, 1, none⟩ = some (.string { data := #[115, 117, 98] }) := h 1 (by decide)
  clear h
  go_enter Tryd.func15, Tryd.ntmps15
  go_wp2_with (go_at_call 38; refine (isOp_yes _ _ (by decide) (by decide)).mono ?_; rintro e w' ⟨rfl, rfl⟩)
  go_ret2
  exact ⟨rfl, rfl⟩
theorem opText2 (w : World) (h : OpT w) : Calls Tryd.prog 15 #[.int .i64 2] w fun e w' => e = .returned (.tuple #[.string (Wd.tx 2), .bool true]) ∧ w = w' := by
  have hc : w.cell? ⟨0, 2, none⟩ = some (.string { data := #[109, 117, 108] }) := h 2 (by decide)
  clear h
  go_enter Tryd.func15, Tryd.ntmps15
  go_wp2_with (go_at_call 38; refine (isOp_yes _ _ (by decide) (by decide)).mono ?_; rintro e w' ⟨rfl, rfl⟩)
  go_ret2
  exact ⟨rfl, rfl⟩
theorem opText3 (w : World) (h : OpT w) : Calls Tryd.prog 15 #[.int .i64 3] w fun e w' => e = .returned (.tuple #[.string (Wd.tx 3), .bool true]) ∧ w = w' := by
  have hc : w.cell? ⟨0, 3, none⟩ = some (.string { data := #[97, 110, 100] }) := h 3 (by decide)
  clear h
  go_enter Tryd.func15, Tryd.ntmps15
  go_wp2_with (go_at_call 38; refine (isOp_yes _ _ (by decide) (by decide)).mono ?_; rintro e w' ⟨rfl, rfl⟩)
  go_ret2
  exact ⟨rfl, rfl⟩
theorem opText4 (w : World) (h : OpT w) : Calls Tryd.prog 15 #[.int .i64 4] w fun e w' => e = .returned (.tuple #[.string (Wd.tx 4), .bool true]) ∧ w = w' := by
  have hc : w.cell? ⟨0, 4, none⟩ = some (.string { data := #[111, 114] }) := h 4 (by decide)
  clear h
  go_enter Tryd.func15, Tryd.ntmps15
  go_wp2_with (go_at_call 38; refine (isOp_yes _ _ (by decide) (by decide)).mono ?_; rintro e w' ⟨rfl, rfl⟩)
  go_ret2
  exact ⟨rfl, rfl⟩
theorem opText5 (w : World) (h : OpT w) : Calls Tryd.prog 15 #[.int .i64 5] w fun e w' => e = .returned (.tuple #[.string (Wd.tx 5), .bool true]) ∧ w = w' := by
  have hc : w.cell? ⟨0, 5, none⟩ = some (.string { data := #[120, 111, 114] }) := h 5 (by decide)
  clear h
  go_enter Tryd.func15, Tryd.ntmps15
  go_wp2_with (go_at_call 38; refine (isOp_yes _ _ (by decide) (by decide)).mono ?_; rintro e w' ⟨rfl, rfl⟩)
  go_ret2
  exact ⟨rfl, rfl⟩
theorem opText6 (w : World) (h : OpT w) : Calls Tryd.prog 15 #[.int .i64 6] w fun e w' => e = .returned (.tuple #[.string (Wd.tx 6), .bool true]) ∧ w = w' := by
  have hc : w.cell? ⟨0, 6, none⟩ = some (.string { data := #[109, 105, 110, 117] }) := h 6 (by decide)
  clear h
  go_enter Tryd.func15, Tryd.ntmps15
  go_wp2_with (go_at_call 38; refine (isOp_yes _ _ (by decide) (by decide)).mono ?_; rintro e w' ⟨rfl, rfl⟩)
  go_ret2
  exact ⟨rfl, rfl⟩
theorem opText7 (w : World) (h : OpT w) : Calls Tryd.prog 15 #[.int .i64 7] w fun e w' => e = .returned (.tuple #[.string (Wd.tx 7), .bool true]) ∧ w = w' := by
  have hc : w.cell? ⟨0, 7, none⟩ = some (.string { data := #[109, 97, 120, 117] }) := h 7 (by decide)
  clear h
  go_enter Tryd.func15, Tryd.ntmps15
  go_wp2_with (go_at_call 38; refine (isOp_yes _ _ (by decide) (by decide)).mono ?_; rintro e w' ⟨rfl, rfl⟩)
  go_ret2
  exact ⟨rfl, rfl⟩
theorem opText8 (w : World) (h : OpT w) : Calls Tryd.prog 15 #[.int .i64 8] w fun e w' => e = .returned (.tuple #[.string (Wd.tx 8), .bool true]) ∧ w = w' := by
  have hc : w.cell? ⟨0, 8, none⟩ = some (.string { data := #[109, 105, 110, 115] }) := h 8 (by decide)
  clear h
  go_enter Tryd.func15, Tryd.ntmps15
  go_wp2_with (go_at_call 38; refine (isOp_yes _ _ (by decide) (by decide)).mono ?_; rintro e w' ⟨rfl, rfl⟩)
  go_ret2
  exact ⟨rfl, rfl⟩
theorem opText9 (w : World) (h : OpT w) : Calls Tryd.prog 15 #[.int .i64 9] w fun e w' => e = .returned (.tuple #[.string (Wd.tx 9), .bool true]) ∧ w = w' := by
  have hc : w.cell? ⟨0, 9, none⟩ = some (.string { data := #[109, 97, 120, 115] }) := h 9 (by decide)
  clear h
  go_enter Tryd.func15, Tryd.ntmps15
  go_wp2_with (go_at_call 38; refine (isOp_yes _ _ (by decide) (by decide)).mono ?_; rintro e w' ⟨rfl, rfl⟩)
  go_ret2
  exact ⟨rfl, rfl⟩
theorem opText10 (w : World) (h : OpT w) : Calls Tryd.prog 15 #[.int .i64 10] w fun e w' => e = .returned (.tuple #[.string (Wd.tx 10), .bool true]) ∧ w = w' := by
  have hc : w.cell? ⟨0, 10, none⟩ = some (.string { data := #[97, 100, 100, 117] }) := h 10 (by decide)
  clear h
  go_enter Tryd.func15, Tryd.ntmps15
  go_wp2_with (go_at_call 38; refine (isOp_yes _ _ (by decide) (by decide)).mono ?_; rintro e w' ⟨rfl, rfl⟩)
  go_ret2
  exact ⟨rfl, rfl⟩
theorem opText11 (w : World) (h : OpT w) : Calls Tryd.prog 15 #[.int .i64 11] w fun e w' => e = .returned (.tuple #[.string (Wd.tx 11), .bool true]) ∧ w = w' := by
  have hc : w.cell? ⟨0, 11, none⟩ = some (.string { data := #[97, 100, 100, 115] }) := h 11 (by decide)
  clear h
  go_enter Tryd.func15, Tryd.ntmps15
  go_wp2_with (go_at_call 38; refine (isOp_yes _ _ (by decide) (by decide)).mono ?_; rintro e w' ⟨rfl, rfl⟩)
  go_ret2
  exact ⟨rfl, rfl⟩
theorem opText12 (w : World) (h : OpT w) : Calls Tryd.prog 15 #[.int .i64 12] w fun e w' => e = .returned (.tuple #[.string (Wd.tx 12), .bool true]) ∧ w = w' := by
  have hc : w.cell? ⟨0, 12, none⟩ = some (.string { data := #[115, 117, 98, 117] }) := h 12 (by decide)
  clear h
  go_enter Tryd.func15, Tryd.ntmps15
  go_wp2_with (go_at_call 38; refine (isOp_yes _ _ (by decide) (by decide)).mono ?_; rintro e w' ⟨rfl, rfl⟩)
  go_ret2
  exact ⟨rfl, rfl⟩
theorem opText13 (w : World) (h : OpT w) : Calls Tryd.prog 15 #[.int .i64 13] w fun e w' => e = .returned (.tuple #[.string (Wd.tx 13), .bool true]) ∧ w = w' := by
  have hc : w.cell? ⟨0, 13, none⟩ = some (.string { data := #[115, 117, 98, 115] }) := h 13 (by decide)
  clear h
  go_enter Tryd.func15, Tryd.ntmps15
  go_wp2_with (go_at_call 38; refine (isOp_yes _ _ (by decide) (by decide)).mono ?_; rintro e w' ⟨rfl, rfl⟩)
  go_ret2
  exact ⟨rfl, rfl⟩
theorem opText14 (w : World) (h : OpT w) : Calls Tryd.prog 15 #[.int .i64 14] w fun e w' => e = .returned (.tuple #[.string (Wd.tx 14), .bool true]) ∧ w = w' := by
  have hc : w.cell? ⟨0, 14, none⟩ = some (.string { data := #[97, 118, 103] }) := h 14 (by decide)
  clear h
  go_enter Tryd.func15, Tryd.ntmps15
  go_wp2_with (go_at_call 38; refine (isOp_yes _ _ (by decide) (by decide)).mono ?_; rintro e w' ⟨rfl, rfl⟩)
  go_ret2
  exact ⟨rfl, rfl⟩
theorem opText15 (w : World) (h : OpT w) : Calls Tryd.prog 15 #[.int .i64 15] w fun e w' => e = .returned (.tuple #[.string (Wd.tx 15), .bool true]) ∧ w = w' := by
  have hc : w.cell? ⟨0, 15, none⟩ = some (.string { data := #[115, 104, 108] }) := h 15 (by decide)
  clear h
  go_enter Tryd.func15, Tryd.ntmps15
  go_wp2_with (go_at_call 38; refine (isOp_yes _ _ (by decide) (by decide)).mono ?_; rintro e w' ⟨rfl, rfl⟩)
  go_ret2
  exact ⟨rfl, rfl⟩
theorem opText16 (w : World) (h : OpT w) : Calls Tryd.prog 15 #[.int .i64 16] w fun e w' => e = .returned (.tuple #[.string (Wd.tx 16), .bool true]) ∧ w = w' := by
  have hc : w.cell? ⟨0, 16, none⟩ = some (.string { data := #[115, 104, 114, 117] }) := h 16 (by decide)
  clear h
  go_enter Tryd.func15, Tryd.ntmps15
  go_wp2_with (go_at_call 38; refine (isOp_yes _ _ (by decide) (by decide)).mono ?_; rintro e w' ⟨rfl, rfl⟩)
  go_ret2
  exact ⟨rfl, rfl⟩
theorem opText17 (w : World) (h : OpT w) : Calls Tryd.prog 15 #[.int .i64 17] w fun e w' => e = .returned (.tuple #[.string (Wd.tx 17), .bool true]) ∧ w = w' := by
  have hc : w.cell? ⟨0, 17, none⟩ = some (.string { data := #[115, 104, 114, 115] }) := h 17 (by decide)
  clear h
  go_enter Tryd.func15, Tryd.ntmps15
  go_wp2_with (go_at_call 38; refine (isOp_yes _ _ (by decide) (by decide)).mono ?_; rintro e w' ⟨rfl, rfl⟩)
  go_ret2
  exact ⟨rfl, rfl⟩
theorem opText_in (op : Int) (w : World) (h0 : 0 ≤ op) (h1 : op ≤ 17) (h : OpT w) : Calls Tryd.prog 15 #[.int .i64 op] w fun e w' => e = .returned (.tuple #[.string (Wd.tx op.toNat), .bool true]) ∧ w = w' := by
  rcases Wd.op_cases h0 h1 with rfl | rfl | rfl | rfl | rfl | rfl | rfl | rfl | rfl | rfl | rfl | rfl | rfl | rfl | rfl | rfl | rfl | rfl
  · exact opText0 w h
  · exact opText1 w h
  · exact opText2 w h
  · exact opText3 w h
  · exact opText4 w h
  · exact opText5 w h
  · exact opText6 w h
  · exact opText7 w h
  · exact opText8 w h
  · exact opText9 w h
  · exact opText10 w h
  · exact opText11 w h
  · exact opText12 w h
  · exact opText13 w h
  · exact opText14 w h
  · exact opText15 w h
  · exact opText16 w h
  · exact opText17 w h
theorem opText_out (op : Int) (w : World) (h : ¬ (0 ≤ op ∧ op ≤ 17)) : Calls Tryd.prog 15 #[.int .i64 op] w fun e w' => e = .returned (.tuple #[.string { data := #[] }, .bool false]) ∧ Below w.heap.size w w' := by
  go_enter Tryd.func15, Tryd.ntmps15
  go_wp2_with (go_at_call 38; refine (isOp_no _ _ h).mono ?_; rintro e w' ⟨rfl, hbel⟩)
  go_ret2
  exact ⟨rfl, hbel⟩

end Go.Proofs.YthdiiefacgodnaaDoor.Wds
