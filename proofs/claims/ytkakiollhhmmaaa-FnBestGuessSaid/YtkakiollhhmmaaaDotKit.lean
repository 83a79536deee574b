/-
  The walks of a picture's places and dots, of impl.DotAt and spec.DotAt.
-/
import Derived.Test.YtkakiollhhmmaaaPicKit
import Derived.Test.YtkakiollhhmmaaaBrKit
import Derived.Deep.RegionHeld3
import Derived.Deep.RegionWith
import Derived.Deep.QuietTactic
import Derived.BigQuiet
namespace Go.Proofs.Ytkakiollhhmmaaa
open Go.RowKit
set_option linter.unusedVariables false
set_option maxRecDepth 20000

end Go.Proofs.Ytkakiollhhmmaaa
