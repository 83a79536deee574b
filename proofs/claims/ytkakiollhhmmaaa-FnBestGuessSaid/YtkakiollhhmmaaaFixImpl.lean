/-
  The walk of impl.FixRow: a number in signs.
-/
import Derived.Test.YtkakiollhhmmaaaFixKit
namespace Go.Proofs.Ytkakiollhhmmaaa
open Go.RowKit
set_option linter.unusedVariables false
set_option maxRecDepth 20000

end Go.Proofs.Ytkakiollhhmmaaa
