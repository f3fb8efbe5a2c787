/-
  The greater and the lesser one of two numbers: the model's functions.
-/
import Derived.Test.YtfmplneopmbfoaaDoorLstW
import Derived.Test.YtfmplneopmbfoaaDoorWords
namespace Go.Proofs.YtfmplneopmbfoaaDoor.Wds
open Go.RowKit
set_option linter.unusedVariables false

theorem maxM_any (a b : Int) (w : World) : Calls Tryd.prog 64 #[.int .i64 a, .int .i64 b] w fun e w' => e = .returned (.int .i64 (max a b)) ∧ w = w' := by
  by_cases h : b < a
  · have d : decide (b < a) = true := decide_eq_true h
    go_enter Tryd.func64, Tryd.ntmps64
    go_wp2
    go_ret
    exact ⟨ret_int (by omega), rfl⟩
  · have d : decide (b < a) = false := decide_eq_false h
    go_enter Tryd.func64, Tryd.ntmps64
    go_wp2
    go_ret
    exact ⟨ret_int (by omega), rfl⟩
end Go.Proofs.YtfmplneopmbfoaaDoor.Wds
