/-
  TileRect's answers field by field, and the walk of impl.TileSquares.
-/
import Derived.Test.YtigcoboaeibcjaaDoorGridSq
import Derived.Test.YtigcoboaeibcjaaDoorGridRect
namespace Go.Proofs.YtigcoboaeibcjaaDoor
open Go.RowKit
set_option linter.unusedVariables false
set_option maxRecDepth 20000

theorem implRect (l b : Int) (a1 a2 : Option Addr) (c1 c2 : Nat) (xs ys : List Int) (t : Int) (w : World) (h : SetIn w a1 a2 xs ys) :
    Calls Tryd.prog 20 #[.agg #[.int .i64 l, .int .i64 b, .slice a1 xs.length c1, .slice a2 ys.length c2], .int .i64 t] w fun e w' => e = .returned (.tuple #[.agg #[.int .i64 (zR rL l b xs ys t), .int .i64 (zR rT l b xs ys t), .int .i64 (zR rW l b xs ys t), .int .i64 (zR rH l b xs ys t)], .bool (okT l b xs ys t)]) ∧ Below w.heap.size w w' := by
  have := implTileRect l b a1 a2 c1 c2 xs ys t w h
  rwa [rectV_eq] at this

set_option maxHeartbeats 800000 in
theorem implTileSquares (l b : Int) (a1 a2 : Option Addr) (c1 c2 : Nat) (xs ys : List Int) (t : Int) (w : World) (h : SetIn w a1 a2 xs ys) :
    Calls Tryd.prog 22 #[.agg #[.int .i64 l, .int .i64 b, .slice a1 xs.length c1, .slice a2 ys.length c2], .int .i64 t] w fun e w' => e = .returned (.int .i64 (zR rS l b xs ys t)) ∧ Below w.heap.size w w' := by
  obtain ⟨x, y, e1, e2, e3, ⟨x0, x1⟩, y0, y1⟩ := zS_bd l b xs ys t
  have HC : Hid (∀ w', Below w.heap.size w w' → Calls Tryd.prog 20 #[.agg #[.int .i64 l, .int .i64 b, .slice a1 xs.length c1, .slice a2 ys.length c2], .int .i64 t] w' _) := fun w' hb => implRect l b a1 a2 c1 c2 xs ys t w' (h.below hb (Nat.le_refl _))
  rw [e1, e2] at HC
  rw [e3]
  clear e1 e2 e3 h
  generalize zR rL l b xs ys t = vL at *
  generalize zR rT l b xs ys t = vT at *
  generalize okT l b xs ys t = o at *
  have d1 : Int.tdiv (8 * x) 8 = x := by rw [Int.tdiv_eq_ediv_of_nonneg (by omega)]; omega
  have d2 : Int.tdiv (8 * y) 8 = y := by rw [Int.tdiv_eq_ediv_of_nonneg (by omega)]; omega
  have HM : Hid (wrap64 (x * y) = x * y) := by
    have hh : x * y ≤ 8 * 8 := Int.mul_le_mul x1 y1 y0 (by omega)
    have h0 : 0 ≤ x * y := Int.mul_nonneg x0 y0
    exact IntWalk.wrap64_in _ ⟨by omega, by omega⟩
  go_enter Tryd.func22, Tryd.ntmps22
  go_wp2_with fail
  generalize hW : World.alloc w _ = W
  have hb0 : Below w.heap.size w W := by rw [← hW]; exact (Below.refl _ _).alloc (Nat.le_refl _) _
  clear hW
  refine (HC.out W hb0).mono ?_
  rintro e w1 ⟨rfl, hc⟩
  have hb1 := hb0.trans (hc.mono hb0.size)
  clear hc hb0 HC
  have hs1 := hb1.size
  go_wp2
  go_ret
  refine ⟨?_, by go_grown⟩
  show Ending.returned (.int .i64 (wrap64 (x * y))) = _
  rw [HM.out]
end Go.Proofs.YtigcoboaeibcjaaDoor
