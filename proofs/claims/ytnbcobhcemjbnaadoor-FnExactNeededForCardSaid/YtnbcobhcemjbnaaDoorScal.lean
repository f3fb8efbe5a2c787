/-
  What the scalar functions of chapter 1 return and do to memory, over the translated program: one contract each (the code's own and the model's).
-/
import Derived.Test.YtnbcobhcemjbnaaDoorWords
import Derived.Test.YtnbcobhcemjbnaaDoorBits
namespace Go.Proofs.YtnbcobhcemjbnaaDoor.Wds
open Go.RowKit

theorem ret_word {k : IntKind} {a b : Int} {c : Bool} (h : a = b) : Ending.returned (.tuple #[.int k a, .bool c]) = .returned (.tuple #[.int k b, .bool c]) := by rw [h]
theorem ret_two {a b c : Bool} (h : a = b) : Ending.returned (.tuple #[.bool a, .bool c]) = .returned (.tuple #[.bool b, .bool c]) := by rw [h]
theorem pw_bd {b : Int} (h : Wd.IsBits b) : 16 ≤ Wd.pw b ∧ Wd.pw b ≤ 65536 ∧ Wd.pw b = 2 * Wd.hf b ∧ 4 ≤ b ∧ b ≤ 16 := by
  rcases Wd.bits_cases h with ⟨h0, h1, h2⟩ | ⟨h0, h1, h2⟩ | ⟨h0, h1, h2⟩ <;> omega

theorem isOp_yes (op : Int) (w : World) (h0 : 0 ≤ op) (h1 : op ≤ 17) : Calls Tryd.prog 92 #[.int .i64 op] w fun e w' => e = .returned (.bool true) ∧ w = w' := by
  go_enter Tryd.func92, Tryd.ntmps92
  go_wp2_with (go_at_call 71; refine (within_in _ _ _ _ (by omega) (by omega)).mono ?_; rintro e w' ⟨rfl, rfl⟩)
  go_ret
  exact ⟨rfl, rfl⟩
theorem isOp_lo (op : Int) (w : World) (h0 : op < 0) : Calls Tryd.prog 92 #[.int .i64 op] w fun e w' => e = .returned (.bool false) ∧ Below w.heap.size w w' := by
  go_enter Tryd.func92, Tryd.ntmps92
  go_wp2_with (go_at_call 71; refine (within_lo _ _ _ _ (by omega)).mono ?_; rintro e w' ⟨rfl, rfl⟩)
  go_ret
  exact ⟨rfl, (Below.refl _ _).alloc (Nat.le_refl _) _⟩
theorem isOp_hi (op : Int) (w : World) (h0 : 17 < op) : Calls Tryd.prog 92 #[.int .i64 op] w fun e w' => e = .returned (.bool false) ∧ Below w.heap.size w w' := by
  go_enter Tryd.func92, Tryd.ntmps92
  go_wp2_with (go_at_call 71; refine (within_hi _ _ _ _ (by omega) (by omega)).mono ?_; rintro e w' ⟨rfl, rfl⟩)
  go_ret
  exact ⟨rfl, (Below.refl _ _).alloc (Nat.le_refl _) _⟩
theorem isOp_no (op : Int) (w : World) (h : ¬ (0 ≤ op ∧ op ≤ 17)) : Calls Tryd.prog 92 #[.int .i64 op] w fun e w' => e = .returned (.bool false) ∧ Below w.heap.size w w' := by
  by_cases h0 : op < 0
  · exact isOp_lo op w h0
  · exact isOp_hi op w (by omega)
theorem comm_false {op : Int} (h : ¬ (0 ≤ op ∧ op ≤ 17)) : Wd.comm op = false := by simp only [Wd.comm]; rw [decide_eq_false h]; rfl
end Go.Proofs.YtnbcobhcemjbnaaDoor.Wds
