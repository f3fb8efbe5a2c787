/-
  What the model's operation on words of 8 bits returns, over the translated program: one contract an operation.
-/
import Derived.Test.YtigodbilfjppbaaGreatDoorSdoBase
namespace Go.Proofs.YtigodbilfjppbaaGreatDoor.Wds
open Go.RowKit
end Go.Proofs.YtigodbilfjppbaaGreatDoor.Wds
