/-
  What TileRect answers, and a struct with one result more.
-/
import Derived.Test.YtigcoboaeibcjaaDoorGridTops
namespace Go.Proofs.YtigcoboaeibcjaaDoor
open Go.RowKit
set_option linter.unusedVariables false
set_option maxRecDepth 20000

/-- What TileRect answers. -/
def rectV (l b : Int) (xs ys : List Int) (t : Int) : Value :=
  if okT l b xs ys t = true then .agg #[.int .i64 (rL xs ys t.toNat), .int .i64 (rT xs ys t.toNat), .int .i64 (rW xs ys t.toNat), .int .i64 (rH xs ys t.toNat)] else .agg #[.int .i64 0, .int .i64 0, .int .i64 0, .int .i64 0]

theorem rectV_no {l b : Int} {xs ys : List Int} {t : Int} (h : okT l b xs ys t = false) : rectV l b xs ys t = .agg #[.int .i64 0, .int .i64 0, .int .i64 0, .int .i64 0] := by unfold rectV; rw [h]; rfl
/-- A struct and one result more, handed back out of its variable. -/
theorem results_cell_one {P : Program} {fn : Func} {p u : Tmp} {ty : TypeId} (h : fn.results = #[.cell p ty, .tmp u]) (tmps : Array Value) (w : World) (g : Nat) (t : TypeId) (cs : Array Value) (fr : Nat × Nat) (d : TypeDesc)
    (hp : tmps.getD p undef = .pointer (some ⟨g, 0, none⟩)) (hg : w.heap[g]? = some (.cells cs t fr))
    (hu : P.underlying ty = some d) (hd : (match d with | .struct _ | .array _ _ => true | _ => false) = true) (hi : (P.info? ty).map (·.size) = some cs.size) :
    (results fn tmps).run P w = .ok (.tuple #[.agg cs, tmps.getD u undef]) w := by
  have hp' : tmps[p]?.getD undef = .pointer (some ⟨g, 0, none⟩) := by simpa using hp
  simp [results, h, hp', asAddr, Result.andThen, run_loadVar_row w g t ty cs fr d hg hu hd hi]

end Go.Proofs.YtigcoboaeibcjaaDoor
