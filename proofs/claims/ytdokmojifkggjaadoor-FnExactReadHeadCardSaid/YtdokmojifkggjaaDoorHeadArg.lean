/-
  A head that came in; the walks of laws.toHead and laws.eqHead.
-/
import Derived.Test.YtdokmojifkggjaaDoorHeadKit
import Derived.Test.YtdokmojifkggjaaDoorSeqKit
import Derived.Test.YtdokmojifkggjaaDoorSeqArg
namespace Go.Proofs.YtdokmojifkggjaaDoor
open Go.ChangeShapes Go.WideShapes Go.ChangeAt Go.RowKit
set_option linter.unusedVariables false
set_option maxRecDepth 20000

theorem head_in {H : Type} {enc : TypeId × Value → H} {W : World} {base : Nat} {v : Value} {d : DataW H} {p : List MemPlace} (hv : Value.okWide Tryd.prog W .any base 44 v) (h : DataW.Trod enc Tryd.prog W 0 (fun _ => true) true 44 v d p) :
    ∃ (t f k : Int), v = .agg #[.int .i64 t, .int .i64 f, .int .i64 k] := by
  obtain ⟨v0, v1, v2, y0, y1, y2, n, rfl, _, _, t0, t1, t2⟩ := Go.Joins.open_agg3 Tryd.underlying44 (by kernel_rfl) (by kernel_rfl) hv h
  obtain ⟨t, e0, _, _⟩ := DataW.trod_int Tryd.underlying3 t0
  obtain ⟨f, e1, _, _⟩ := DataW.trod_int Tryd.underlying3 t1
  obtain ⟨k, e2, _, _⟩ := DataW.trod_int Tryd.underlying3 t2
  simp at e0 e1 e2
  subst e0 e1 e2
  exact ⟨t, f, k, rfl⟩

set_option maxHeartbeats 800000 in
theorem toHead_any (t f k : Int) (w : World) :
    Calls Tryd.prog 19 #[.agg #[.int .i64 t, .int .i64 f, .int .i64 k]] w fun e w' => e = .returned (.agg #[.int .i64 t, .int .i64 f, .int .i64 k]) ∧ Below w.heap.size w w' := by
  go_enter Tryd.func19, Tryd.ntmps19
  go_wp2
  (try simp only [Exit.inBlock, Exit.then])
  refine bodyPost_ret (results_cell_row rfl _ _ (w.heap.size + 1) 30 _ (0, 0) _ rfl ((Blk.new' _ _ (by simp)).alloc _) Tryd.underlying30 rfl (by kernel_rfl)) rfl ?_
  exact ⟨rfl, by go_grown⟩

set_option maxHeartbeats 800000 in
theorem eqHead_any (t f k : Int) (w : World) :
    Calls Tryd.prog 23 #[.agg #[.int .i64 t, .int .i64 f, .int .i64 k], .agg #[.int .i64 t, .int .i64 f, .int .i64 k]] w fun e w' => e = .returned (.bool true) ∧ Below w.heap.size w w' := by
  go_enter Tryd.func23, Tryd.ntmps23
  go_wp2
  go_ret
  exact ⟨rfl, by go_grown⟩
end Go.Proofs.YtdokmojifkggjaaDoor
