/-
  What the scalar functions of the reference model of chapter 1 return, over the translated program: one contract each. They change nothing.
-/
import Derived.Test.YtkoaljbjkogagaaScal
namespace Go.Proofs.Ytkoaljbjkogagaa.Wds
open Go.RowKit

end Go.Proofs.Ytkoaljbjkogagaa.Wds
