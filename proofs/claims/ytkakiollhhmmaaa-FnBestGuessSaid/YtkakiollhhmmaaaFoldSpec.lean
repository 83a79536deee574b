/-
  The walks of spec.FoldSe and spec.OpenSe.
-/
import Derived.Test.YtkakiollhhmmaaaFoldMath
import Derived.Test.YtkakiollhhmmaaaInAny
namespace Go.Proofs.Ytkakiollhhmmaaa
open Go.RowKit
set_option linter.unusedVariables false
set_option maxRecDepth 20000

end Go.Proofs.Ytkakiollhhmmaaa
