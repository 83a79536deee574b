/-
  The walk of laws.eqRect, and TileRect's answers field by field (of the model).
-/
import Derived.Test.YtigcoboaeibcjaaDoorGridZ
import Derived.Test.YtigcoboaeibcjaaDoorGridSpec
namespace Go.Proofs.YtigcoboaeibcjaaDoor
open Go.RowKit
set_option linter.unusedVariables false
set_option maxRecDepth 20000

set_option maxHeartbeats 800000 in
theorem eqRect_any (p q r s : Int) (w : World) :
    Calls Tryd.prog 29 #[.agg #[.int .i64 p, .int .i64 q, .int .i64 r, .int .i64 s], .agg #[.int .i64 p, .int .i64 q, .int .i64 r, .int .i64 s]] w fun e w' => e = .returned (.bool true) ∧ Below w.heap.size w w' := by
  go_enter Tryd.func29, Tryd.ntmps29
  go_wp2
  go_ret
  exact ⟨rfl, by go_grown⟩

theorem specRect (l b : Int) (a1 a2 : Option Addr) (c1 c2 : Nat) (xs ys : List Int) (t : Int) (w : World) (h : SetIn w a1 a2 xs ys) :
    Calls Tryd.prog 28 #[.agg #[.int .i64 l, .int .i64 b, .slice a1 xs.length c1, .slice a2 ys.length c2], .int .i64 t] w fun e w' => e = .returned (.tuple #[.agg #[.int .i64 (zR rL l b xs ys t), .int .i64 (zR rT l b xs ys t), .int .i64 (zR rW l b xs ys t), .int .i64 (zR rH l b xs ys t)], .bool (okT l b xs ys t)]) ∧ Below w.heap.size w w' := by
  have := specTileRect l b a1 a2 c1 c2 xs ys t w h
  rwa [rectV_eq] at this
end Go.Proofs.YtigcoboaeibcjaaDoor
