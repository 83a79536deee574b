/-
  A picture that came in; the walks of laws.szPic, laws.toPic, laws.eqPic, laws.toRect; impl.PicOk and spec.PicOk.
-/
import Derived.Test.YtkakiollhhmmaaaPicMath
import Derived.Test.YtkakiollhhmmaaaInKit
import Derived.Test.YtkakiollhhmmaaaBlkKit
import Derived.Test.YtkakiollhhmmaaaIntsArg
import Derived.ProofKit
import Derived.OpenShut
import Derived.ChangeOld
import Derived.Lib.SmallJoins
import Derived.Below
namespace Go.Proofs.Ytkakiollhhmmaaa
open Go.ChangeShapes Go.WideShapes Go.ChangeAt Go.RowKit
set_option linter.unusedVariables false
set_option maxRecDepth 20000

abbrev picV (W H : Int) (s : ByteArray) : Value := .agg #[.int .i64 W, .int .i64 H, .string s]
abbrev rectW (l t w h : Int) : Value := .agg #[.int .i64 l, .int .i64 t, .int .i64 w, .int .i64 h]

end Go.Proofs.Ytkakiollhhmmaaa
