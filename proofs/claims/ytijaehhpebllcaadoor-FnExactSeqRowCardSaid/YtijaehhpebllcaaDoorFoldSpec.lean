/-
  The walks of spec.FoldSe and spec.OpenSe.
-/
import Derived.Test.YtijaehhpebllcaaDoorFoldMath
import Derived.Test.YtijaehhpebllcaaDoorInAny
namespace Go.Proofs.YtijaehhpebllcaaDoor
open Go.RowKit
set_option linter.unusedVariables false
set_option maxRecDepth 20000

end Go.Proofs.YtijaehhpebllcaaDoor
