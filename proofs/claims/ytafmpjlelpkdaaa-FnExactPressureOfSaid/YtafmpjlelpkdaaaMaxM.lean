/-
  The greater and the lesser one of two numbers: the model's functions.
-/
import Derived.Test.YtafmpjlelpkdaaaLstW
import Derived.Test.YtafmpjlelpkdaaaWords
namespace Go.Proofs.Ytafmpjlelpkdaaa.Wds
open Go.RowKit
set_option linter.unusedVariables false

theorem maxM_any (a b : Int) (w : World) : Calls Try.prog 89 #[.int .i64 a, .int .i64 b] w fun e w' => e = .returned (.int .i64 (max a b)) ∧ w = w' := by
  by_cases h : b < a
  · have d : decide (b < a) = true := decide_eq_true h
    go_enter Try.func89, Try.ntmps89
    go_wp2
    go_ret
    exact ⟨ret_int (by omega), rfl⟩
  · have d : decide (b < a) = false := decide_eq_false h
    go_enter Try.func89, Try.ntmps89
    go_wp2
    go_ret
    exact ⟨ret_int (by omega), rfl⟩
theorem minM_any (a b : Int) (w : World) : Calls Try.prog 90 #[.int .i64 a, .int .i64 b] w fun e w' => e = .returned (.int .i64 (min a b)) ∧ w = w' := by
  by_cases h : a < b
  · have d : decide (a < b) = true := decide_eq_true h
    go_enter Try.func90, Try.ntmps90
    go_wp2
    go_ret
    exact ⟨ret_int (by omega), rfl⟩
  · have d : decide (a < b) = false := decide_eq_false h
    go_enter Try.func90, Try.ntmps90
    go_wp2
    go_ret
    exact ⟨ret_int (by omega), rfl⟩
end Go.Proofs.Ytafmpjlelpkdaaa.Wds
