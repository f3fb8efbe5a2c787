/-
  What the scalar functions of the reference model of chapter 1 return, over the translated program: one contract each. They change nothing.
-/
import Derived.Test.YtacbcjlpajmkhaaScal
namespace Go.Proofs.Ytacbcjlpajmkhaa.Wds
open Go.RowKit

theorem in_any (n lo hi : Int) (w : World) : Calls Try.prog 46 #[.int .i64 n, .int .i64 lo, .int .i64 hi] w fun e w' => e = .returned (.bool (decide (lo ≤ n ∧ n ≤ hi))) ∧ w = w' := by
  by_cases h0 : lo ≤ n
  · by_cases h1 : n ≤ hi
    · rw [decide_eq_true (⟨h0, h1⟩ : lo ≤ n ∧ n ≤ hi)]
      go_enter Try.func46, Try.ntmps46
      go_wp2
      go_ret
      exact ⟨rfl, rfl⟩
    · rw [decide_eq_false (fun hh : lo ≤ n ∧ n ≤ hi => h1 hh.2)]
      go_enter Try.func46, Try.ntmps46
      go_wp2
      go_ret
      exact ⟨rfl, rfl⟩
  · rw [decide_eq_false (fun hh : lo ≤ n ∧ n ≤ hi => h0 hh.1)]
    go_enter Try.func46, Try.ntmps46
    go_wp2
    go_ret
    exact ⟨rfl, rfl⟩
theorem in_yes (n lo hi : Int) (w : World) (h : lo ≤ n ∧ n ≤ hi) : Calls Try.prog 46 #[.int .i64 n, .int .i64 lo, .int .i64 hi] w fun e w' => e = .returned (.bool true) ∧ w = w' := by
  have := in_any n lo hi w; rwa [decide_eq_true h] at this
theorem in_no (n lo hi : Int) (w : World) (h : ¬ (lo ≤ n ∧ n ≤ hi)) : Calls Try.prog 46 #[.int .i64 n, .int .i64 lo, .int .i64 hi] w fun e w' => e = .returned (.bool false) ∧ w = w' := by
  have := in_any n lo hi w; rwa [decide_eq_false h] at this
theorem sop_yes (op : Int) (w : World) (h : 0 ≤ op ∧ op ≤ 17) : Calls Try.prog 37 #[.int .i64 op] w fun e w' => e = .returned (.bool true) ∧ w = w' := by
  go_enter Try.func37, Try.ntmps37
  go_wp2_with (go_at_call 46; refine (in_yes _ _ _ _ h).mono ?_; rintro e w' ⟨rfl, rfl⟩)
  go_ret
  exact ⟨rfl, rfl⟩
theorem sop_no (op : Int) (w : World) (h : ¬ (0 ≤ op ∧ op ≤ 17)) : Calls Try.prog 37 #[.int .i64 op] w fun e w' => e = .returned (.bool false) ∧ w = w' := by
  go_enter Try.func37, Try.ntmps37
  go_wp2_with (go_at_call 46; refine (in_no _ _ _ _ h).mono ?_; rintro e w' ⟨rfl, rfl⟩)
  go_ret
  exact ⟨rfl, rfl⟩
theorem scomm_in (op : Int) (w : World) (h : 0 ≤ op ∧ op ≤ 17) : Calls Try.prog 25 #[.int .i64 op] w fun e w' => e = .returned (.bool (Wd.comm op)) ∧ w = w' := by
  obtain ⟨h0, h1⟩ := h
  rcases Wd.op_cases h0 h1 with rfl | rfl | rfl | rfl | rfl | rfl | rfl | rfl | rfl | rfl | rfl | rfl | rfl | rfl | rfl | rfl | rfl | rfl
  all_goals
    go_enter Try.func25, Try.ntmps25
    go_wp2_with (go_at_call 37; refine (sop_yes _ _ (by decide)).mono ?_; rintro e w' ⟨rfl, rfl⟩)
    go_ret
    exact ⟨rfl, rfl⟩
theorem scomm_out (op : Int) (w : World) (h : ¬ (0 ≤ op ∧ op ≤ 17)) : Calls Try.prog 25 #[.int .i64 op] w fun e w' => e = .returned (.bool false) ∧ w = w' := by
  have n1 : (op == 1) = false := by simp; omega
  have n2 : (op == 12) = false := by simp; omega
  have n3 : (op == 13) = false := by simp; omega
  have n4 : (op == 15) = false := by simp; omega
  have n5 : (op == 16) = false := by simp; omega
  have n6 : (op == 17) = false := by simp; omega
  go_enter Try.func25, Try.ntmps25
  go_wp2_with (go_at_call 37; refine (sop_no _ _ h).mono ?_; rintro e w' ⟨rfl, rfl⟩)
  go_ret
  exact ⟨rfl, rfl⟩
theorem scomm_lit (op : Int) (w : World) (h : 0 ≤ op ∧ op ≤ 17) (c : Bool) (hc : Wd.comm op = c) : Calls Try.prog 25 #[.int .i64 op] w fun e w' => e = .returned (.bool c) ∧ w = w' := by
  subst hc; exact scomm_in op w h
end Go.Proofs.Ytacbcjlpajmkhaa.Wds
