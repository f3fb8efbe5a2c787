/-
  The greater and the lesser one of two numbers: the model's functions.
-/
import Derived.Test.YtfmplneopmbfoaaLstW
import Derived.Test.YtfmplneopmbfoaaWords
namespace Go.Proofs.Ytfmplneopmbfoaa.Wds
open Go.RowKit
set_option linter.unusedVariables false

end Go.Proofs.Ytfmplneopmbfoaa.Wds
