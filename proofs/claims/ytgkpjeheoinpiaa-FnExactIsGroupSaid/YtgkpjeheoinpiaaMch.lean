/-
  Machines: the copy that a law makes, and the tests on a machine of the code and of the model: one contract each.
-/
import Derived.Test.YtgkpjeheoinpiaaVecW
import Derived.Test.YtgkpjeheoinpiaaMcM
import Derived.Handy
namespace Go.Proofs.Ytgkpjeheoinpiaa.Wds
open Go.RowKit
set_option linter.unusedVariables false

theorem toM_any (l b : Int) (w : World) :
    Calls Try.prog 6 #[.agg #[.int .i64 l, .int .i64 b]] w fun e w' => e = .returned (.agg #[.int .i64 l, .int .i64 b]) ∧ Below w.heap.size w w' := by
  go_enter Try.func6, Try.ntmps6
  go_wp2
  go_returns
  refine ⟨rfl, ?_⟩
  go_grown
theorem new2 (w : World) (x y : Value) (t : TypeId) : (w.alloc (.cells #[x, y] t)).cell? ⟨w.heap.size, 0, none⟩ = some x ∧ (w.alloc (.cells #[x, y] t)).cell? ⟨w.heap.size, 1, none⟩ = some y :=
  ⟨cell_two_new w x y t 0 x rfl, cell_two_new w x y t 1 y rfl⟩
theorem lanes_no {l : Int} (h : ¬ (l = 2 ∨ l = 4 ∨ l = 8 ∨ l = 16)) : Ln.lanes l = false ∧ (l == 2) = false ∧ (l == 4) = false ∧ (l == 8) = false ∧ (l == 16) = false := by
  unfold Ln.lanes
  have h1 : (l == 2) = false := by simp; omega
  have h2 : (l == 4) = false := by simp; omega
  have h3 : (l == 8) = false := by simp; omega
  have h4 : (l == 16) = false := by simp; omega
  simp [h1, h2, h3, h4]
/-- A machine behind a pointer: of the model. -/
theorem sMachine_any (l b : Int) (g o : Nat) (w : World) (h0 : w.cell? ⟨g, o, none⟩ = some (.int .i64 l)) (h1 : w.cell? ⟨g, o + 1, none⟩ = some (.int .i64 b)) :
    Calls Try.prog 18 #[.pointer (some ⟨g, o, none⟩)] w fun e w' => e = .returned (.bool (Mc.mok l b)) ∧ w = w' := by
  have CB := Lib.hid (sbits_any b w)
  unfold Mc.mok
  obtain ⟨c, hc⟩ : ∃ c, c = decide (Wd.IsBits b) := ⟨_, rfl⟩
  rw [← hc] at CB ⊢
  clear hc
  by_cases hl : l = 2 ∨ l = 4 ∨ l = 8 ∨ l = 16
  · rcases hl with rfl | rfl | rfl | rfl
    all_goals
      go_enter Try.func18, Try.ntmps18
      go_wp2_with fail
      refine CB.out.mono ?_
      rintro e w1 ⟨rfl, rfl⟩
      go_wp2
      go_ret
      exact ⟨ret_bool (by simp [Ln.lanes]), rfl⟩
  · obtain ⟨e0, e1, e2, e3, e4⟩ := lanes_no hl
    rw [e0]
    clear hl e0 CB
    go_enter Try.func18, Try.ntmps18
    go_wp2
    go_ret
    exact ⟨ret_bool (by simp), rfl⟩
theorem iValidM_any (l b : Int) (w : World) :
    Calls Try.prog 25 #[.agg #[.int .i64 l, .int .i64 b]] w fun e w' => e = .returned (.bool (Mc.mok l b)) ∧ Below w.heap.size w w' := by
  have C1 := Lib.hid (fun W => isLanes_any l W)
  have C2 := Lib.hid (fun W => isBits_any b W)
  unfold Mc.mok
  generalize Ln.lanes l = c1 at C1 ⊢
  generalize decide (Wd.IsBits b) = c2 at C2 ⊢
  cases c1
  · go_enter Try.func25, Try.ntmps25
    go_wp2_with fail
    refine (C1.out _).mono ?_
    rintro e w1 ⟨rfl, rfl⟩
    go_wp2
    go_ret
    exact ⟨ret_bool (by simp), (Below.refl _ _).alloc (Nat.le_refl _) _⟩
  · go_enter Try.func25, Try.ntmps25
    go_wp2_with fail
    refine (C1.out _).mono ?_
    rintro e w1 ⟨rfl, rfl⟩
    go_wp2_with fail
    refine (C2.out _).mono ?_
    rintro e w1 ⟨rfl, rfl⟩
    go_wp2
    go_ret
    exact ⟨ret_bool (by simp), (Below.refl _ _).alloc (Nat.le_refl _) _⟩
end Go.Proofs.Ytgkpjeheoinpiaa.Wds
