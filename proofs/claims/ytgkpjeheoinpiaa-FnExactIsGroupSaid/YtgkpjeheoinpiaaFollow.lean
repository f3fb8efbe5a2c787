/-
  MustFollow: the code's and the model's, one contract each.
-/
import Derived.Test.YtgkpjeheoinpiaaSets
import Derived.Test.YtgkpjeheoinpiaaRetS
namespace Go.Proofs.Ytgkpjeheoinpiaa.Wds
open Go.RowKit
set_option linter.unusedVariables false

theorem inBq {w : World} (x lo hi : Int) (b : Bool) (hb : decide (lo ≤ x ∧ x ≤ hi) = b) (p : BelowBy w) :
    Calls Try.prog 20 #[.int .i64 x, .int .i64 lo, .int .i64 hi] p.W fun e w'' => e = .returned (.bool b) ∧ ∃ q : BelowBy w, w'' = q.W := by
  subst hb
  exact calls_below ((inB_any x lo hi p.W).mono fun e w' hh => ⟨hh.1, by rw [← hh.2]; exact Below.refl _ _⟩)
end Go.Proofs.Ytgkpjeheoinpiaa.Wds
