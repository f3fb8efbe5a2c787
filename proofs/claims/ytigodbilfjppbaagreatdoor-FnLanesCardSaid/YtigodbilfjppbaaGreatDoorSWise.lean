/-
  The model's results in all lanes: one contract.
-/
import Derived.Test.YtigodbilfjppbaaGreatDoorLawDoOp
import Derived.Test.YtigodbilfjppbaaGreatDoorVecW
import Derived.Test.YtigodbilfjppbaaGreatDoorStepPush
namespace Go.Proofs.YtigodbilfjppbaaGreatDoor.Wds
open Go.RowKit
set_option linter.unusedVariables false

end Go.Proofs.YtigodbilfjppbaaGreatDoor.Wds
