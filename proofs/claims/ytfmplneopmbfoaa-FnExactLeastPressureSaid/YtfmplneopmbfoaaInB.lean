/-
  Whether a number lies between two: the model's function.
-/
import Derived.Test.YtfmplneopmbfoaaLstW
import Derived.Test.YtfmplneopmbfoaaWords
namespace Go.Proofs.Ytfmplneopmbfoaa.Wds
open Go.RowKit
set_option linter.unusedVariables false

theorem inB_any (n lo hi : Int) (w : World) : Calls Try.prog 69 #[.int .i64 n, .int .i64 lo, .int .i64 hi] w fun e w' => e = .returned (.bool (decide (lo ≤ n ∧ n ≤ hi))) ∧ w = w' := by
  by_cases h0 : lo ≤ n
  · by_cases h1 : n ≤ hi
    · rw [decide_eq_true ⟨h0, h1⟩]
      have d0 : decide (lo ≤ n) = true := decide_eq_true h0
      have d1 : decide (n ≤ hi) = true := decide_eq_true h1
      go_enter Try.func69, Try.ntmps69
      go_wp2
      go_ret
      exact ⟨rfl, rfl⟩
    · rw [decide_eq_false (fun h => h1 h.2)]
      have d0 : decide (lo ≤ n) = true := decide_eq_true h0
      have d1 : decide (n ≤ hi) = false := decide_eq_false h1
      go_enter Try.func69, Try.ntmps69
      go_wp2
      go_ret
      exact ⟨rfl, rfl⟩
  · rw [decide_eq_false (fun h => h0 h.1)]
    have d0 : decide (lo ≤ n) = false := decide_eq_false h0
    go_enter Try.func69, Try.ntmps69
    go_wp2
    go_ret
    exact ⟨rfl, rfl⟩
end Go.Proofs.Ytfmplneopmbfoaa.Wds
