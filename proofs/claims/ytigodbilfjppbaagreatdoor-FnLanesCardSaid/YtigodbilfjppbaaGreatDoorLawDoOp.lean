/-
  The walk of the law of DoOp: the code's own answer is the model's, for all arguments.
-/
import Derived.Test.YtigodbilfjppbaaGreatDoorDoOp
import Derived.Test.YtigodbilfjppbaaGreatDoorSdo4
import Derived.Test.YtigodbilfjppbaaGreatDoorSdo8
import Derived.Test.YtigodbilfjppbaaGreatDoorSdo16
namespace Go.Proofs.YtigodbilfjppbaaGreatDoor.Wds
open Go.RowKit Go.Proofs.YtigodbilfjppbaaGreatDoor.Err
set_option linter.unusedVariables false

end Go.Proofs.YtigodbilfjppbaaGreatDoor.Wds
