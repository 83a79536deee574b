/-
  A set that came in: what of it lies in memory.
-/
import Derived.Test.YtdokmojifkggjaaDoorIntKit
import Derived.ProofKit
import Derived.OpenShut
import Derived.ChangeOld
import Derived.ChangeSlices
import Derived.Lib.SmallJoins
import Derived.Below
namespace Go.Proofs.YtdokmojifkggjaaDoor
open Go.ChangeShapes Go.WideShapes Go.ChangeAt Go.RowKit
set_option linter.unusedVariables false
set_option maxRecDepth 20000

theorem cells3 : Tryd.prog.cellsOf 3 = 1 := by kernel_rfl
theorem ints_in {H : Type} {enc : TypeId × Value → H} {W : World} {n : Nat} {v : Value} {y : DataW H × List MemPlace} (h : DataW.trod enc Tryd.prog W 0 (fun _ => true) true n 24 [v] = some y) :
    ∃ (a : Option Addr) (xs : List Int) (c : Nat), v = .slice a xs.length c ∧ Ints W a xs ∧ xs.length ≤ maxLen := by
  rcases open_ints Tryd.underlying24 Tryd.underlying3 cells3 h with ⟨hcs, _⟩ | ⟨x, l, c, zs, hcs, _, hl, hm, hz, _, hcell, hwz⟩
  · simp at hcs
    subst hcs
    exact ⟨none, [], 0, rfl, .inl rfl, by simp⟩
  · simp at hcs
    subst hcs
    have hz' : zs.length = c := by simpa using hz
    have hlen : (zs.take l).length = l := by rw [List.length_take]; omega
    refine ⟨some x, zs.take l, c, by rw [hlen], ?_, by omega⟩
    by_cases h00 : l = 0
    · left; rw [h00]; rfl
    · right
      obtain ⟨b, off, spot⟩ := x
      have hc := hcell 0 (by omega)
      have hspot : spot = none := by simpa [Addr.add] using World.cell?_spot hc
      subst hspot
      have hc0 : W.cell? ⟨b, off, none⟩ = some (.int .i64 (zs.getD 0 0)) := by simpa [Addr.add] using hc
      refine ⟨b, off, rfl, World.block_lt_of_cell? W _ hc0, fun j hj => ?_⟩
      rw [hlen] at hj
      have hadd : (⟨b, off, none⟩ : Addr).add j = ⟨b, off + j, none⟩ := by unfold Addr.add; split <;> simp_all
      rw [← hadd, hcell j (by omega)]
      simp [List.getD, hj]
set_option maxRecDepth 100000 in
/-- A set that came in, opened. -/
theorem seq_in {H : Type} {enc : TypeId × Value → H} {W : World} {base : Nat} {v : Value} {d : DataW H} {p : List MemPlace} (hv : Value.okWide Tryd.prog W .any base 42 v) (h : DataW.Trod enc Tryd.prog W 0 (fun _ => true) true 42 v d p) :
    ∃ (l b : Int) (a1 a2 : Option Addr) (xs ys : List Int) (c1 c2 : Nat), v = .agg #[.int .i64 l, .int .i64 b, .slice a1 xs.length c1, .slice a2 ys.length c2] ∧ Ints W a1 xs ∧ Ints W a2 ys ∧ xs.length ≤ maxLen ∧ ys.length ≤ maxLen ∧
      (Lit.int .i64 l).wf = true ∧ (Lit.int .i64 b).wf = true := by
  obtain ⟨v0, v1, v2, v3, y0, y1, y2, y3, n, rfl, _, _, t0, t1, t2, t3⟩ := Go.Joins.open_agg4 Tryd.underlying42 (by kernel_rfl) (by kernel_rfl) hv h
  obtain ⟨l, e0, _, w0⟩ := DataW.trod_int Tryd.underlying3 t0
  obtain ⟨b, e1, _, w1⟩ := DataW.trod_int Tryd.underlying3 t1
  obtain ⟨a1, xs, c1, rfl, i1, m1⟩ := ints_in t2
  obtain ⟨a2, ys, c2, rfl, i2, m2⟩ := ints_in t3
  simp at e0 e1
  subst e0 e1
  exact ⟨l, b, a1, a2, xs, ys, c1, c2, rfl, i1, i2, m1, m2, w0, w1⟩
end Go.Proofs.YtdokmojifkggjaaDoor
