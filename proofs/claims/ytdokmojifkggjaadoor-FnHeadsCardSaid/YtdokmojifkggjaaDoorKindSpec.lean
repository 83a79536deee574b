/-
  The walk of spec.l07Kind.
-/
import Derived.Test.YtdokmojifkggjaaDoorKindKit
namespace Go.Proofs.YtdokmojifkggjaaDoor
open Go.RowKit
set_option linter.unusedVariables false
set_option maxRecDepth 20000

end Go.Proofs.YtdokmojifkggjaaDoor
