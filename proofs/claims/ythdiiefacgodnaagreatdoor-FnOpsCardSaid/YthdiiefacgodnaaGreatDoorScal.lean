/-
  What the scalar functions of chapter 1 return and do to memory, over the translated program: one contract each (the code's own and the model's).
-/
import Derived.Test.YthdiiefacgodnaaGreatDoorWords
import Derived.Test.YthdiiefacgodnaaGreatDoorBits
namespace Go.Proofs.YthdiiefacgodnaaGreatDoor.Wds
open Go.RowKit

theorem ret_word {k : IntKind} {a b : Int} {c : Bool} (h : a = b) : Ending.returned (.tuple #[.int k a, .bool c]) = .returned (.tuple #[.int k b, .bool c]) := by rw [h]
theorem ret_two {a b c : Bool} (h : a = b) : Ending.returned (.tuple #[.bool a, .bool c]) = .returned (.tuple #[.bool b, .bool c]) := by rw [h]
theorem pw_bd {b : Int} (h : Wd.IsBits b) : 16 ≤ Wd.pw b ∧ Wd.pw b ≤ 65536 ∧ Wd.pw b = 2 * Wd.hf b ∧ 4 ≤ b ∧ b ≤ 16 := by
  rcases Wd.bits_cases h with ⟨h0, h1, h2⟩ | ⟨h0, h1, h2⟩ | ⟨h0, h1, h2⟩ <;> omega

theorem signed_any (b x : Int) (w : World) (h : Wd.IsWord b x) : Calls Tryz.prog 23 #[.int .i64 b, .int .i64 x] w fun e w' => e = .returned (.int .i64 (Wd.sg b x)) ∧ w = w' := by
  obtain ⟨hb, h0, h1⟩ := h
  rcases hb with rfl | rfl | rfl
  · have h1' : x < 16 := h1
    by_cases hh : x < 8
    all_goals
      go_enter Tryz.func23, Tryz.ntmps23
      go_wp2
      go_ret
      exact ⟨ret_int (by simp only [Wd.sg, Wd.hf, Wd.pw]; simp; omega), rfl⟩
  · have h1' : x < 256 := h1
    by_cases hh : x < 128
    all_goals
      go_enter Tryz.func23, Tryz.ntmps23
      go_wp2
      go_ret
      exact ⟨ret_int (by simp only [Wd.sg, Wd.hf, Wd.pw]; simp; omega), rfl⟩
  · have h1' : x < 65536 := h1
    by_cases hh : x < 32768
    all_goals
      go_enter Tryz.func23, Tryz.ntmps23
      go_wp2
      go_ret
      exact ⟨ret_int (by simp only [Wd.sg, Wd.hf, Wd.pw]; simp; omega), rfl⟩

theorem isOp_yes (op : Int) (w : World) (h0 : 0 ≤ op) (h1 : op ≤ 17) : Calls Tryz.prog 17 #[.int .i64 op] w fun e w' => e = .returned (.bool true) ∧ w = w' := by
  go_enter Tryz.func17, Tryz.ntmps17
  go_wp2_with (go_at_call 21; refine (within_in _ _ _ _ (by omega) (by omega)).mono ?_; rintro e w' ⟨rfl, rfl⟩)
  go_ret
  exact ⟨rfl, rfl⟩
theorem isOp_lo (op : Int) (w : World) (h0 : op < 0) : Calls Tryz.prog 17 #[.int .i64 op] w fun e w' => e = .returned (.bool false) ∧ Below w.heap.size w w' := by
  go_enter Tryz.func17, Tryz.ntmps17
  go_wp2_with (go_at_call 21; refine (within_lo _ _ _ _ (by omega)).mono ?_; rintro e w' ⟨rfl, rfl⟩)
  go_ret
  exact ⟨rfl, (Below.refl _ _).alloc (Nat.le_refl _) _⟩
theorem isOp_hi (op : Int) (w : World) (h0 : 17 < op) : Calls Tryz.prog 17 #[.int .i64 op] w fun e w' => e = .returned (.bool false) ∧ Below w.heap.size w w' := by
  go_enter Tryz.func17, Tryz.ntmps17
  go_wp2_with (go_at_call 21; refine (within_hi _ _ _ _ (by omega) (by omega)).mono ?_; rintro e w' ⟨rfl, rfl⟩)
  go_ret
  exact ⟨rfl, (Below.refl _ _).alloc (Nat.le_refl _) _⟩
theorem isOp_no (op : Int) (w : World) (h : ¬ (0 ≤ op ∧ op ≤ 17)) : Calls Tryz.prog 17 #[.int .i64 op] w fun e w' => e = .returned (.bool false) ∧ Below w.heap.size w w' := by
  by_cases h0 : op < 0
  · exact isOp_lo op w h0
  · exact isOp_hi op w (by omega)

theorem isValue_yes (n : Int) (w : World) (h0 : -1000000000 ≤ n) (h1 : n ≤ 1000000000) : Calls Tryz.prog 24 #[.int .i64 n] w fun e w' => e = .returned (.bool true) ∧ w = w' := by
  go_enter Tryz.func24, Tryz.ntmps24
  go_wp2_with (go_at_call 21; refine (within_in _ _ _ _ (by omega) (by omega)).mono ?_; rintro e w' ⟨rfl, rfl⟩)
  go_ret
  exact ⟨rfl, rfl⟩
theorem isValue_lo (n : Int) (w : World) (h0 : n < -1000000000) : Calls Tryz.prog 24 #[.int .i64 n] w fun e w' => e = .returned (.bool false) ∧ Below w.heap.size w w' := by
  go_enter Tryz.func24, Tryz.ntmps24
  go_wp2_with (go_at_call 21; refine (within_lo _ _ _ _ (by omega)).mono ?_; rintro e w' ⟨rfl, rfl⟩)
  go_ret
  exact ⟨rfl, (Below.refl _ _).alloc (Nat.le_refl _) _⟩
theorem isValue_hi (n : Int) (w : World) (h0 : 1000000000 < n) : Calls Tryz.prog 24 #[.int .i64 n] w fun e w' => e = .returned (.bool false) ∧ Below w.heap.size w w' := by
  go_enter Tryz.func24, Tryz.ntmps24
  go_wp2_with (go_at_call 21; refine (within_hi _ _ _ _ (by omega) (by omega)).mono ?_; rintro e w' ⟨rfl, rfl⟩)
  go_ret
  exact ⟨rfl, (Below.refl _ _).alloc (Nat.le_refl _) _⟩
theorem isValue_no (n : Int) (w : World) (h : ¬ (-1000000000 ≤ n ∧ n ≤ 1000000000)) : Calls Tryz.prog 24 #[.int .i64 n] w fun e w' => e = .returned (.bool false) ∧ Below w.heap.size w w' := by
  by_cases h0 : n < -1000000000
  · exact isValue_lo n w h0
  · exact isValue_hi n w (by omega)

theorem signedOf_yes (b x : Int) (w : World) (h : Wd.IsWord b x) : Calls Tryz.prog 12 #[.int .i64 b, .int .i64 x] w fun e w' => e = .returned (.tuple #[.int .i64 (Wd.sg b x), .bool true]) ∧ w = w' := by
  go_enter Tryz.func12, Tryz.ntmps12
  go_wp2_with (first | (go_at_call 9; refine (isWord_yes _ _ _ h).mono ?_; rintro e w' ⟨rfl, rfl⟩) | (go_at_call 23; refine (signed_any _ _ _ h).mono ?_; rintro e w' ⟨rfl, rfl⟩))
  go_ret2
  exact ⟨rfl, rfl⟩
theorem signedOf_no (b x : Int) (w : World) (h : ¬ Wd.IsWord b x) : Calls Tryz.prog 12 #[.int .i64 b, .int .i64 x] w fun e w' => e = .returned (.tuple #[.int .i64 0, .bool false]) ∧ Below w.heap.size w w' := by
  go_enter Tryz.func12, Tryz.ntmps12
  go_wp2_with (go_at_call 9; refine (isWord_no _ _ _ h).mono ?_; rintro e w' ⟨rfl, hb⟩)
  go_ret2
  exact ⟨rfl, hb⟩
theorem wrap_any (b n : Int) (w : World) (hb : Wd.IsBits b) : Calls Tryz.prog 25 #[.int .i64 b, .int .i64 n] w fun e w' => e = .returned (.int .i64 (Wd.wr b n)) ∧ w = w' := by
  have hp1 := (pw_bd hb).1
  have hp2 := (pw_bd hb).2.1
  go_enter Tryz.func25, Tryz.ntmps25
  go_wp2_with (go_at_call 22; refine (greatest_any _ _ hb).mono ?_; rintro e w' ⟨rfl, rfl⟩)
  go_ret
  exact ⟨ret_int (Bts.i64_wr b n hb), rfl⟩
theorem wordOf_yes (b n : Int) (w : World) (hb : Wd.IsBits b) (h0 : -1000000000 ≤ n) (h1 : n ≤ 1000000000) : Calls Tryz.prog 13 #[.int .i64 b, .int .i64 n] w fun e w' => e = .returned (.tuple #[.int .i64 (Wd.wr b n), .bool true]) ∧ w = w' := by
  have hd : decide (Wd.IsBits b) = true := decide_eq_true hb
  go_enter Tryz.func13, Tryz.ntmps13
  go_wp2_with (first | (go_at_call 20; refine (isBits_any _ _).mono ?_; rintro e w' ⟨rfl, rfl⟩) | (go_at_call 24; refine (isValue_yes _ _ h0 h1).mono ?_; rintro e w' ⟨rfl, rfl⟩) | (go_at_call 25; refine (wrap_any _ _ _ hb).mono ?_; rintro e w' ⟨rfl, rfl⟩))
  go_ret2
  exact ⟨rfl, rfl⟩
theorem wordOf_no (b n : Int) (w : World) (h : ¬ (Wd.IsBits b ∧ -1000000000 ≤ n ∧ n ≤ 1000000000)) : Calls Tryz.prog 13 #[.int .i64 b, .int .i64 n] w fun e w' => e = .returned (.tuple #[.int .i64 0, .bool false]) ∧ Below w.heap.size w w' := by
  by_cases hb : Wd.IsBits b
  · have hd : decide (Wd.IsBits b) = true := decide_eq_true hb
    have hn : ¬ (-1000000000 ≤ n ∧ n ≤ 1000000000) := fun hh => h ⟨hb, hh⟩
    go_enter Tryz.func13, Tryz.ntmps13
    go_wp2_with (first | (go_at_call 20; refine (isBits_any _ _).mono ?_; rintro e w' ⟨rfl, rfl⟩) | (go_at_call 24; refine (isValue_no _ _ hn).mono ?_; rintro e w' ⟨rfl, hbel⟩))
    go_ret2
    exact ⟨rfl, hbel⟩
  · have hd : decide (Wd.IsBits b) = false := decide_eq_false hb
    go_enter Tryz.func13, Tryz.ntmps13
    go_wp2_with (go_at_call 20; refine (isBits_any _ _).mono ?_; rintro e w' ⟨rfl, rfl⟩)
    go_ret2
    exact ⟨rfl, Below.refl _ _⟩
theorem comm_in (op : Int) (w : World) (h0 : 0 ≤ op) (h1 : op ≤ 17) : Calls Tryz.prog 10 #[.int .i64 op] w fun e w' => e = .returned (.bool (Wd.comm op)) ∧ w = w' := by
  rcases Wd.op_cases h0 h1 with rfl | rfl | rfl | rfl | rfl | rfl | rfl | rfl | rfl | rfl | rfl | rfl | rfl | rfl | rfl | rfl | rfl | rfl
  all_goals
    go_enter Tryz.func10, Tryz.ntmps10
    go_wp2_with (go_at_call 17; refine (isOp_yes _ _ (by decide) (by decide)).mono ?_; rintro e w' ⟨rfl, rfl⟩)
    go_ret
    exact ⟨rfl, rfl⟩
theorem comm_false {op : Int} (h : ¬ (0 ≤ op ∧ op ≤ 17)) : Wd.comm op = false := by simp only [Wd.comm]; rw [decide_eq_false h]; rfl
theorem comm_out (op : Int) (w : World) (h : ¬ (0 ≤ op ∧ op ≤ 17)) : Calls Tryz.prog 10 #[.int .i64 op] w fun e w' => e = .returned (.bool false) ∧ Below w.heap.size w w' := by
  have n1 : (op == 1) = false := by simp; omega
  have n2 : (op == 12) = false := by simp; omega
  have n3 : (op == 13) = false := by simp; omega
  have n4 : (op == 15) = false := by simp; omega
  have n5 : (op == 16) = false := by simp; omega
  have n6 : (op == 17) = false := by simp; omega
  go_enter Tryz.func10, Tryz.ntmps10
  go_wp2_with (go_at_call 17; refine (isOp_no _ _ h).mono ?_; rintro e w' ⟨rfl, hbel⟩)
  go_ret
  exact ⟨rfl, hbel⟩
theorem assoc_in (op : Int) (w : World) (h0 : 0 ≤ op) (h1 : op ≤ 17) : Calls Tryz.prog 11 #[.int .i64 op] w fun e w' => e = .returned (.bool (Wd.assoc op)) ∧ w = w' := by
  rcases Wd.op_cases h0 h1 with rfl | rfl | rfl | rfl | rfl | rfl | rfl | rfl | rfl | rfl | rfl | rfl | rfl | rfl | rfl | rfl | rfl | rfl
  all_goals
    go_enter Tryz.func11, Tryz.ntmps11
    go_wp2_with (go_at_call 10; refine (comm_in _ _ (by decide) (by decide)).mono ?_; rintro e w' ⟨rfl, rfl⟩)
    go_ret
    exact ⟨rfl, rfl⟩
theorem assoc_out (op : Int) (w : World) (h : ¬ (0 ≤ op ∧ op ≤ 17)) : Calls Tryz.prog 11 #[.int .i64 op] w fun e w' => e = .returned (.bool false) ∧ Below w.heap.size w w' := by
  have n1 : (op == 11) = false := by simp; omega
  have n2 : (op == 14) = false := by simp; omega
  go_enter Tryz.func11, Tryz.ntmps11
  go_wp2_with (go_at_call 10; refine (comm_out _ _ h).mono ?_; rintro e w' ⟨rfl, hbel⟩)
  go_ret
  exact ⟨rfl, hbel⟩
end Go.Proofs.YthdiiefacgodnaaGreatDoor.Wds
