/-
  The walks of spec.FoldSe and spec.OpenSe.
-/
import Derived.Test.YthmcedfkfoagdaaFoldMath
import Derived.Test.YthmcedfkfoagdaaInAny
namespace Go.Proofs.Ythmcedfkfoagdaa
open Go.RowKit
set_option linter.unusedVariables false
set_option maxRecDepth 20000

end Go.Proofs.Ythmcedfkfoagdaa
