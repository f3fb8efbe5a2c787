/-
  The tests on vectors and masks, of the code and of the model: one contract each.
-/
import Derived.Test.YtgkpjeheoinpiaaLstW
import Derived.Test.YtgkpjeheoinpiaaScal
import Derived.Test.YtgkpjeheoinpiaaSpec
namespace Go.Proofs.Ytgkpjeheoinpiaa.Wds
open Go.RowKit
set_option linter.unusedVariables false

/-- A Bool is returned; what was there stays as it was. -/
def RetB (c : Bool) (w : World) (e : Ending) (w' : World) : Prop := e = .returned (.bool c) ∧ Below w.heap.size w w'
theorem RetB.of {c : Bool} {w w' : World} {e : Ending} (he : e = .returned (.bool c)) (hb : Below w.heap.size w w') : RetB c w e w' := ⟨he, hb⟩

theorem isLanes_any (n : Int) (w : World) : Calls Try.prog 38 #[.int .i64 n] w fun e w' => e = .returned (.bool (Ln.lanes n)) ∧ w = w' := by
  unfold Ln.lanes
  go_enter Try.func38, Try.ntmps38
  go_wp2
  all_goals
    go_ret
    exact ⟨ret_bool (by simp_all), rfl⟩
end Go.Proofs.Ytgkpjeheoinpiaa.Wds
