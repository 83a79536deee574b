/-
  Edges that came in: what of them lies in memory.
-/
import Derived.Test.YtkakiollhhmmaaaIntsArg
import Derived.ProofKit
import Derived.OpenShut
import Derived.ChangeOld
import Derived.ChangeSlices
import Derived.Lib.SmallJoins
import Derived.Below
namespace Go.Proofs.Ytkakiollhhmmaaa
open Go.ChangeShapes Go.WideShapes Go.ChangeAt Go.RowKit
set_option linter.unusedVariables false
set_option maxRecDepth 20000

set_option maxRecDepth 100000 in
/-- Edges that came in, opened. -/
theorem edges_in {H : Type} {enc : TypeId × Value → H} {W : World} {base : Nat} {v : Value} {d : DataW H} {p : List MemPlace} (hv : Value.okWide Try.prog W .any base 36 v) (h : DataW.Trod enc Try.prog W 0 (fun _ => true) true 36 v d p) :
    ∃ (a1 a2 : Option Addr) (xs ys : List Int) (c1 c2 : Nat) (c : Int), v = .agg #[.slice a1 xs.length c1, .slice a2 ys.length c2, .int .i64 c] ∧ Ints W a1 xs ∧ Ints W a2 ys ∧ xs.length ≤ maxLen ∧ ys.length ≤ maxLen ∧ (Lit.int .i64 c).wf = true := by
  obtain ⟨v0, v1, v2, y0, y1, y2, n, rfl, _, _, t0, t1, t2⟩ := Go.Joins.open_agg3 Try.underlying36 (by kernel_rfl) (by kernel_rfl) hv h
  obtain ⟨a1, xs, c1, rfl, i1, m1⟩ := ints_in t0
  obtain ⟨a2, ys, c2, rfl, i2, m2⟩ := ints_in t1
  obtain ⟨c, e0, _, w0⟩ := DataW.trod_int Try.underlying3 t2
  simp at e0
  subst e0
  exact ⟨a1, a2, xs, ys, c1, c2, c, rfl, i1, i2, m1, m2, w0⟩
end Go.Proofs.Ytkakiollhhmmaaa
