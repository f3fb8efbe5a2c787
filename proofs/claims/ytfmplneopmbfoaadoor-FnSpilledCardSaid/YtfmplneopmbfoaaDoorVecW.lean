/-
  The tests on vectors and masks, of the code and of the model: one contract each.
-/
import Derived.Test.YtfmplneopmbfoaaDoorLstW
import Derived.Test.YtfmplneopmbfoaaDoorScal
import Derived.Test.YtfmplneopmbfoaaDoorSpec
namespace Go.Proofs.YtfmplneopmbfoaaDoor.Wds
open Go.RowKit
set_option linter.unusedVariables false

/-- A Bool is returned; what was there stays as it was. -/
def RetB (c : Bool) (w : World) (e : Ending) (w' : World) : Prop := e = .returned (.bool c) ∧ Below w.heap.size w w'
theorem RetB.of {c : Bool} {w w' : World} {e : Ending} (he : e = .returned (.bool c)) (hb : Below w.heap.size w w') : RetB c w e w' := ⟨he, hb⟩

end Go.Proofs.YtfmplneopmbfoaaDoor.Wds
