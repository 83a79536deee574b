/-
  The walk of impl.FixRow: a number in signs.
-/
import Derived.Test.YthmcedfkfoagdaaFixKit
namespace Go.Proofs.Ythmcedfkfoagdaa
open Go.RowKit
set_option linter.unusedVariables false
set_option maxRecDepth 20000

end Go.Proofs.Ythmcedfkfoagdaa
