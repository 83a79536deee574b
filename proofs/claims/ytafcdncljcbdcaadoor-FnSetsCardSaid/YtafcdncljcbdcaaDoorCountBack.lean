/-
  The walk of spec.l03ReadUe: a counted number out of what is known to be a row.
-/
import Derived.Test.YtafcdncljcbdcaaDoorCountRead
namespace Go.Proofs.YtafcdncljcbdcaaDoor
open Go.RowKit
set_option linter.unusedVariables false
set_option maxRecDepth 20000

end Go.Proofs.YtafcdncljcbdcaaDoor
