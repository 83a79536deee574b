/-
  The walks of spec.FoldSe and spec.OpenSe.
-/
import Derived.Test.YtafcdncljcbdcaaDoorFoldMath
import Derived.Test.YtafcdncljcbdcaaDoorInAny
namespace Go.Proofs.YtafcdncljcbdcaaDoor
open Go.RowKit
set_option linter.unusedVariables false
set_option maxRecDepth 20000

end Go.Proofs.YtafcdncljcbdcaaDoor
