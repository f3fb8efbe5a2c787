/-
  What the small functions of chapter 1 return and do to memory, over the translated program: one contract each.
-/
import Derived.Test.YtfmplneopmbfoaaRows
import Derived.Test.YtfmplneopmbfoaaMath
import Derived.WalkKit
import Derived.WalkLawsBesides
import Derived.Outline
import Derived.Lib.Hide
namespace Go.Proofs.Ytfmplneopmbfoaa.Wds
open Go.RowKit

theorem ret_bool {a b : Bool} (h : a = b) : Ending.returned (.bool a) = .returned (.bool b) := by rw [h]
theorem ret_int {k : IntKind} {a b : Int} (h : a = b) : Ending.returned (.int k a) = .returned (.int k b) := by rw [h]
theorem isBits_any (b : Int) (w : World) : Calls Try.prog 103 #[.int .i64 b] w fun e w' => e = .returned (.bool (decide (Wd.IsBits b))) ∧ w = w' := by
  rw [Wd.isBits_bool]
  go_enter Try.func103, Try.ntmps103
  go_wp2
  all_goals
    go_ret
    exact ⟨ret_bool (by simp_all), rfl⟩
theorem within_in (n lo hi : Int) (w : World) (h1 : lo ≤ n) (h2 : n ≤ hi) : Calls Try.prog 84 #[.int .i64 n, .int .i64 lo, .int .i64 hi] w fun e w' => e = .returned .nilIface ∧ w = w' := by
  go_enter Try.func84, Try.ntmps84
  go_wp2
  go_ret
  exact ⟨rfl, rfl⟩
theorem within_lo (n lo hi : Int) (w : World) (h1 : n < lo) : Calls Try.prog 84 #[.int .i64 n, .int .i64 lo, .int .i64 hi] w fun e w' => e = .returned (.iface 107 (.pointer (some ⟨w.heap.size, 0, none⟩))) ∧ w.alloc (.cells #[.int .i64 lo] 109) = w' := by
  go_enter Try.func84, Try.ntmps84
  go_wp2
  go_ret
  exact ⟨rfl, rfl⟩
theorem within_hi (n lo hi : Int) (w : World) (h1 : lo ≤ n) (h2 : hi < n) : Calls Try.prog 84 #[.int .i64 n, .int .i64 lo, .int .i64 hi] w fun e w' => e = .returned (.iface 107 (.pointer (some ⟨w.heap.size, 0, none⟩))) ∧ w.alloc (.cells #[.int .i64 hi] 109) = w' := by
  go_enter Try.func84, Try.ntmps84
  go_wp2
  go_ret
  exact ⟨rfl, rfl⟩
theorem greatest_any (b : Int) (w : World) (h : Wd.IsBits b) : Calls Try.prog 104 #[.int .i64 b] w fun e w' => e = .returned (.int .i64 (Wd.pw b - 1)) ∧ w = w' := by
  rcases h with rfl | rfl | rfl
  all_goals
    go_enter Try.func104, Try.ntmps104
    go_wp2
    go_ret
    exact ⟨rfl, rfl⟩
theorem isWord_yes (b x : Int) (w : World) (h : Wd.IsWord b x) : Calls Try.prog 97 #[.int .i64 b, .int .i64 x] w fun e w' => e = .returned (.bool true) ∧ w = w' := by
  obtain ⟨hb, h0, h1⟩ := h
  have hd : decide (Wd.IsBits b) = true := decide_eq_true hb
  go_enter Try.func97, Try.ntmps97
  go_wp2_with (first | (go_at_call 103; refine (isBits_any _ _).mono ?_; rintro e w' ⟨rfl, rfl⟩) | (go_at_call 104; refine (greatest_any _ _ hb).mono ?_; rintro e w' ⟨rfl, rfl⟩) | (go_at_call 84; refine (within_in _ _ _ _ (by omega) (by omega)).mono ?_; rintro e w' ⟨rfl, rfl⟩))
  go_ret
  exact ⟨rfl, rfl⟩
theorem isWord_lo (b x : Int) (w : World) (hb : Wd.IsBits b) (h : x < 0) : Calls Try.prog 97 #[.int .i64 b, .int .i64 x] w fun e w' => e = .returned (.bool false) ∧ w.alloc (.cells #[.int .i64 0] 109) = w' := by
  have hd : decide (Wd.IsBits b) = true := decide_eq_true hb
  go_enter Try.func97, Try.ntmps97
  go_wp2_with (first | (go_at_call 103; refine (isBits_any _ _).mono ?_; rintro e w' ⟨rfl, rfl⟩) | (go_at_call 104; refine (greatest_any _ _ hb).mono ?_; rintro e w' ⟨rfl, rfl⟩) | (go_at_call 84; refine (within_lo _ _ _ _ (by omega)).mono ?_; rintro e w' ⟨rfl, rfl⟩))
  go_ret
  exact ⟨rfl, rfl⟩
theorem isWord_hi (b x : Int) (w : World) (hb : Wd.IsBits b) (h0 : 0 ≤ x) (h : Wd.pw b ≤ x) : Calls Try.prog 97 #[.int .i64 b, .int .i64 x] w fun e w' => e = .returned (.bool false) ∧ w.alloc (.cells #[.int .i64 (Wd.pw b - 1)] 109) = w' := by
  have hd : decide (Wd.IsBits b) = true := decide_eq_true hb
  go_enter Try.func97, Try.ntmps97
  go_wp2_with (first | (go_at_call 103; refine (isBits_any _ _).mono ?_; rintro e w' ⟨rfl, rfl⟩) | (go_at_call 104; refine (greatest_any _ _ hb).mono ?_; rintro e w' ⟨rfl, rfl⟩) | (go_at_call 84; refine (within_hi _ _ _ _ (by omega) (by omega)).mono ?_; rintro e w' ⟨rfl, rfl⟩))
  go_ret
  exact ⟨rfl, rfl⟩
theorem isWord_bits (b x : Int) (w : World) (hb : ¬ Wd.IsBits b) : Calls Try.prog 97 #[.int .i64 b, .int .i64 x] w fun e w' => e = .returned (.bool false) ∧ w = w' := by
  have hd : decide (Wd.IsBits b) = false := decide_eq_false hb
  go_enter Try.func97, Try.ntmps97
  go_wp2_with (go_at_call 103; refine (isBits_any _ _).mono ?_; rintro e w' ⟨rfl, rfl⟩)
  go_ret
  exact ⟨rfl, rfl⟩
theorem isWord_no (b x : Int) (w : World) (h : ¬ Wd.IsWord b x) : Calls Try.prog 97 #[.int .i64 b, .int .i64 x] w fun e w' => e = .returned (.bool false) ∧ Below w.heap.size w w' := by
  by_cases hb : Wd.IsBits b
  · by_cases h0 : x < 0
    · exact (isWord_lo b x w hb h0).mono fun e w' ⟨he, hw⟩ => ⟨he, hw ▸ (Below.refl _ _).alloc (Nat.le_refl _) _⟩
    · exact (isWord_hi b x w hb (by omega) (by have : ¬ (0 ≤ x ∧ x < Wd.pw b) := fun hh => h ⟨hb, hh⟩; omega)).mono fun e w' ⟨he, hw⟩ => ⟨he, hw ▸ (Below.refl _ _).alloc (Nat.le_refl _) _⟩
  · exact (isWord_bits b x w hb).mono fun e w' ⟨he, hw⟩ => ⟨he, hw ▸ Below.refl _ _⟩
end Go.Proofs.Ytfmplneopmbfoaa.Wds
