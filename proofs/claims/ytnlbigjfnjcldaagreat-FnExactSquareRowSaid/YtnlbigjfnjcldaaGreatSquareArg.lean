/-
  A square that came in: what of it lies in memory.
-/
import Derived.Test.YtnlbigjfnjcldaaGreatIntsArg
import Derived.Test.YtnlbigjfnjcldaaGreatSquareKit
import Derived.ProofKit
import Derived.OpenShut
import Derived.ChangeOld
import Derived.ChangeSlices
import Derived.Lib.SmallJoins
import Derived.Below
namespace Go.Proofs.YtnlbigjfnjcldaaGreat
open Go.ChangeShapes Go.WideShapes Go.ChangeAt Go.RowKit
set_option linter.unusedVariables false
set_option maxRecDepth 20000

theorem five_of {α : Type} {cs : Array α} (h : cs.size = 5) : ∃ c0 c1 c2 c3 c4, cs = #[c0, c1, c2, c3, c4] := by
  obtain ⟨l⟩ := cs
  match l, h with
  | [c0, c1, c2, c3, c4], _ => exact ⟨c0, c1, c2, c3, c4, rfl⟩

theorem five_of_list {α : Type} {l : List α} (h : l.length = 5) : ∃ c0 c1 c2 c3 c4, l = [c0, c1, c2, c3, c4] := by
  match l, h with
  | [c0, c1, c2, c3, c4], _ => exact ⟨c0, c1, c2, c3, c4, rfl⟩

set_option maxRecDepth 100000 in
/-- A square that came in, opened. -/
theorem square_in {H : Type} {enc : TypeId × Value → H} {W : World} {base : Nat} {v : Value} {d : DataW H} {p : List MemPlace} (hv : Value.okWide Tryz.prog W .any base 40 v) (h : DataW.Trod enc Tryz.prog W 0 (fun _ => true) true 40 v d p) :
    ∃ (kd md dx dy : Int) (a : Option Addr) (xs : List Int) (c : Nat), v = sqV kd md dx dy a xs.length c ∧ Ints W a xs ∧ xs.length ≤ maxLen := by
  obtain ⟨cs, rfl, hsz⟩ := okWide_struct Tryz.underlying40 hv
  obtain ⟨c0, c1, c2, c3, c4, rfl⟩ := five_of (hsz.trans (show Tryz.prog.cellsOf 40 = 5 by kernel_rfl))
  obtain ⟨fuel, hf⟩ := h
  obtain ⟨ys, n, _, hx, hl, hlen, hg⟩ := DataW.trod_struct Tryz.underlying40 hf
  have g3 : Tryz.prog.cellsOf 3 = 1 := by kernel_rfl
  have gs : Tryz.prog.cellsOf 32 = 1 := by kernel_rfl
  obtain ⟨y0, y1, y2, y3, y4, rfl⟩ := five_of_list (show ys.length = 5 from hlen)
  have t0 := hg 0 _ rfl
  have t1 := hg 1 _ rfl
  have t2 := hg 2 _ rfl
  have t3 := hg 3 _ rfl
  have t4 := hg 4 _ rfl
  clear hg
  simp [g3, gs, Value.cells] at t0 t1 t2 t3 t4
  obtain ⟨kd, e0, _, _⟩ := DataW.trod_int Tryz.underlying3 t0
  obtain ⟨md, e1, _, _⟩ := DataW.trod_int Tryz.underlying3 t1
  obtain ⟨dx, e2, _, _⟩ := DataW.trod_int Tryz.underlying3 t2
  obtain ⟨dy, e3, _, _⟩ := DataW.trod_int Tryz.underlying3 t3
  obtain ⟨a, xs, c, rfl, i4, m4⟩ := ints_in t4
  simp at e0 e1 e2 e3
  subst e0 e1 e2 e3
  exact ⟨kd, md, dx, dy, a, xs, c, rfl, i4, m4⟩
end Go.Proofs.YtnlbigjfnjcldaaGreat
