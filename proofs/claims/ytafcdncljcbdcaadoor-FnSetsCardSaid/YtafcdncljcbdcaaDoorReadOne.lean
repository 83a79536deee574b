/-
  The walk of spec.l02Read: a number out of what is known to be a row.
-/
import Derived.Test.YtafcdncljcbdcaaDoorInAny
import Derived.Test.YtafcdncljcbdcaaDoorRowWalks
import Derived.Test.YtafcdncljcbdcaaDoorReadMath
namespace Go.Proofs.YtafcdncljcbdcaaDoor
open Go.RowKit
set_option linter.unusedVariables false
set_option maxRecDepth 20000

end Go.Proofs.YtafcdncljcbdcaaDoor
