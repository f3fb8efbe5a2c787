/-
  What the scalar functions of the reference model of chapter 1 return, over the translated program: one contract each. They change nothing.
-/
import Derived.Test.YtfmplneopmbfoaaScal
namespace Go.Proofs.Ytfmplneopmbfoaa.Wds
open Go.RowKit

theorem in_any (n lo hi : Int) (w : World) : Calls Try.prog 69 #[.int .i64 n, .int .i64 lo, .int .i64 hi] w fun e w' => e = .returned (.bool (decide (lo ≤ n ∧ n ≤ hi))) ∧ w = w' := by
  by_cases h0 : lo ≤ n
  · by_cases h1 : n ≤ hi
    · rw [decide_eq_true (⟨h0, h1⟩ : lo ≤ n ∧ n ≤ hi)]
      go_enter Try.func69, Try.ntmps69
      go_wp2
      go_ret
      exact ⟨rfl, rfl⟩
    · rw [decide_eq_false (fun hh : lo ≤ n ∧ n ≤ hi => h1 hh.2)]
      go_enter Try.func69, Try.ntmps69
      go_wp2
      go_ret
      exact ⟨rfl, rfl⟩
  · rw [decide_eq_false (fun hh : lo ≤ n ∧ n ≤ hi => h0 hh.1)]
    go_enter Try.func69, Try.ntmps69
    go_wp2
    go_ret
    exact ⟨rfl, rfl⟩
theorem in_yes (n lo hi : Int) (w : World) (h : lo ≤ n ∧ n ≤ hi) : Calls Try.prog 69 #[.int .i64 n, .int .i64 lo, .int .i64 hi] w fun e w' => e = .returned (.bool true) ∧ w = w' := by
  have := in_any n lo hi w; rwa [decide_eq_true h] at this
theorem in_no (n lo hi : Int) (w : World) (h : ¬ (lo ≤ n ∧ n ≤ hi)) : Calls Try.prog 69 #[.int .i64 n, .int .i64 lo, .int .i64 hi] w fun e w' => e = .returned (.bool false) ∧ w = w' := by
  have := in_any n lo hi w; rwa [decide_eq_false h] at this
theorem sbits_any (b : Int) (w : World) : Calls Try.prog 102 #[.int .i64 b] w fun e w' => e = .returned (.bool (decide (Wd.IsBits b))) ∧ w = w' := by
  rw [Wd.isBits_bool]
  go_enter Try.func102, Try.ntmps102
  go_wp2
  all_goals
    go_ret
    exact ⟨ret_bool (by simp_all), rfl⟩
theorem sword_any (b x : Int) (w : World) : Calls Try.prog 101 #[.int .i64 b, .int .i64 x] w fun e w' => e = .returned (.bool (decide (Wd.IsWord b x))) ∧ w = w' := by
  by_cases hb : Wd.IsBits b
  · have hd : decide (Wd.IsBits b) = true := decide_eq_true hb
    have key : ∀ p : Int, Wd.pw b = p → decide (Wd.IsWord b x) = decide (0 ≤ x ∧ x ≤ p - 1) := by
      intro p hp
      by_cases hx : 0 ≤ x ∧ x ≤ p - 1
      · have hw : Wd.IsWord b x := ⟨hb, by omega⟩
        rw [decide_eq_true hx, decide_eq_true hw]
      · have hw : ¬ Wd.IsWord b x := fun hh => hx (by have := hh.2; omega)
        rw [decide_eq_false hx, decide_eq_false hw]
    rcases hb with rfl | rfl | rfl
    · rw [key 16 rfl]; clear key
      go_enter Try.func101, Try.ntmps101
      go_wp2_with (first | (go_at_call 102; refine (sbits_any _ _).mono ?_; rintro e w' ⟨rfl, rfl⟩) | (go_at_call 69; refine (in_any _ _ _ _).mono ?_; rintro e w' ⟨rfl, rfl⟩))
      go_ret
      exact ⟨ret_bool (by simp), rfl⟩
    · rw [key 256 rfl]; clear key
      go_enter Try.func101, Try.ntmps101
      go_wp2_with (first | (go_at_call 102; refine (sbits_any _ _).mono ?_; rintro e w' ⟨rfl, rfl⟩) | (go_at_call 69; refine (in_any _ _ _ _).mono ?_; rintro e w' ⟨rfl, rfl⟩))
      go_ret
      exact ⟨ret_bool (by simp), rfl⟩
    · rw [key 65536 rfl]; clear key
      go_enter Try.func101, Try.ntmps101
      go_wp2_with (first | (go_at_call 102; refine (sbits_any _ _).mono ?_; rintro e w' ⟨rfl, rfl⟩) | (go_at_call 69; refine (in_any _ _ _ _).mono ?_; rintro e w' ⟨rfl, rfl⟩))
      go_ret
      exact ⟨ret_bool (by simp), rfl⟩
  · have hd : decide (Wd.IsBits b) = false := decide_eq_false hb
    have hw : ¬ Wd.IsWord b x := fun hh => hb hh.1
    rw [decide_eq_false hw]; clear hw
    go_enter Try.func101, Try.ntmps101
    go_wp2_with (go_at_call 102; refine (sbits_any _ _).mono ?_; rintro e w' ⟨rfl, rfl⟩)
    go_ret
    exact ⟨rfl, rfl⟩
theorem sword_yes (b x : Int) (w : World) (h : Wd.IsWord b x) : Calls Try.prog 101 #[.int .i64 b, .int .i64 x] w fun e w' => e = .returned (.bool true) ∧ w = w' := by
  have := sword_any b x w; rwa [decide_eq_true h] at this
theorem sword_no (b x : Int) (w : World) (h : ¬ Wd.IsWord b x) : Calls Try.prog 101 #[.int .i64 b, .int .i64 x] w fun e w' => e = .returned (.bool false) ∧ w = w' := by
  have := sword_any b x w; rwa [decide_eq_false h] at this
end Go.Proofs.Ytfmplneopmbfoaa.Wds
