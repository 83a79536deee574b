/-
  The types of a square of four: sizes, and what is a row.
-/
import Derived.Test.YtholbbfibmnicaaSqRun
import Derived.Test.YtholbbfibmnicaaFourMath
import Derived.Deep.WholeRow
namespace Go.Proofs.Ytholbbfibmnicaa
open Go.RowKit
set_option linter.unusedVariables false
set_option maxRecDepth 20000

theorem size44 : (Try.prog.info? 44).map (·.size) = some 16 := by kernel_rfl
theorem size42 : (Try.prog.info? 42).map (·.size) = some 16 := by kernel_rfl
theorem size41 : (Try.prog.info? 41).map (·.size) = some 4 := by kernel_rfl
theorem agg41 (w : World) : (isAgg 41).run Try.prog w = .ok true w := by
  unfold isAgg
  rw [Sem.run_bind, run_underlying Try.underlying41 w]
  rfl
theorem agg3 (w : World) : (isAgg 3).run Try.prog w = .ok false w := by
  unfold isAgg
  rw [Sem.run_bind, run_underlying Try.underlying3 w]
  rfl
theorem size3 : (Try.prog.info? 3).map (·.size) = some 1 := by kernel_rfl
theorem zero4 : (#[.int .i64 0, .int .i64 0, .int .i64 0, .int .i64 0] : Array Value) = arr 4 (fun _ => 0) := rfl

end Go.Proofs.Ytholbbfibmnicaa
