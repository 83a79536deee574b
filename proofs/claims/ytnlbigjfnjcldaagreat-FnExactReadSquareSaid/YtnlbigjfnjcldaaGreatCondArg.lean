/-
  A condition that came in: what of it lies in memory.
-/
import Derived.Test.YtnlbigjfnjcldaaGreatRows
import Derived.ProofKit
import Derived.OpenShut
import Derived.ChangeOld
import Derived.ChangeSlices
import Derived.Lib.SmallJoins
import Derived.Below
namespace Go.Proofs.YtnlbigjfnjcldaaGreat
open Go.ChangeShapes Go.WideShapes Go.ChangeAt Go.RowKit
set_option linter.unusedVariables false
set_option maxRecDepth 20000

set_option maxRecDepth 100000 in
/-- A condition that came in, opened. -/
theorem cond_in {H : Type} {enc : TypeId × Value → H} {W : World} {base : Nat} {v : Value} {d : DataW H} {p : List MemPlace} (hv : Value.okWide Tryz.prog W .any base 41 v) (h : DataW.Trod enc Tryz.prog W 0 (fun _ => true) true 41 v d p) :
    ∃ (k : Bool) (q : Int) (g x : Bool), v = .agg #[.bool k, .int .i64 q, .bool g, .bool x] ∧ (Lit.int .i64 q).wf = true := by
  obtain ⟨v0, v1, v2, v3, y0, y1, y2, y3, n, rfl, _, _, t0, t1, t2, t3⟩ := Go.Joins.open_agg4 Tryz.underlying41 (by kernel_rfl) (by kernel_rfl) hv h
  obtain ⟨k, e0, _⟩ := DataW.trod_bool Tryz.underlying4 t0
  obtain ⟨q, e1, _, w0⟩ := DataW.trod_int Tryz.underlying3 t1
  obtain ⟨g, e2, _⟩ := DataW.trod_bool Tryz.underlying4 t2
  obtain ⟨x, e3, _⟩ := DataW.trod_bool Tryz.underlying4 t3
  simp at e0 e1 e2 e3
  subst e0 e1 e2 e3
  exact ⟨k, q, g, x, rfl, w0⟩
end Go.Proofs.YtnlbigjfnjcldaaGreat
