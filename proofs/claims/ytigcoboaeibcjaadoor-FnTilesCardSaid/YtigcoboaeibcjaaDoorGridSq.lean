/-
  How many squares a tile has: the walk of spec.TileSquares.
-/
import Derived.Test.YtigcoboaeibcjaaDoorEqRect
namespace Go.Proofs.YtigcoboaeibcjaaDoor
open Go.RowKit
set_option linter.unusedVariables false
set_option maxRecDepth 20000

def rS (xs ys : List Int) (k : Nat) : Int := xs.getD (k % xs.length) 0 * ys.getD (k / xs.length) 0
theorem zS_bd (l b : Int) (xs ys : List Int) (t : Int) : ∃ x y : Int, zR rW l b xs ys t = 8 * x ∧ zR rH l b xs ys t = 8 * y ∧ zR rS l b xs ys t = x * y ∧ (0 ≤ x ∧ x ≤ 8) ∧ 0 ≤ y ∧ y ≤ 8 := by
  cases ho : okT l b xs ys t with
  | false => exact ⟨0, 0, by rw [zR_no ho]; rfl, by rw [zR_no ho]; rfl, by rw [zR_no ho]; rfl, by omega, by omega⟩
  | true =>
    obtain ⟨hs, k, rfl, hk⟩ := okT_true ho
    obtain ⟨⟨gx, n0, n1⟩, ⟨gy, m0, m1⟩, _⟩ := seq_sides hs
    obtain ⟨p0, p1⟩ := gx _ (Nat.mod_lt k (by omega))
    obtain ⟨q0, q1⟩ := gy _ (div_lt' hk)
    exact ⟨_, _, zR_yes ho, zR_yes ho, zR_yes ho, by omega, by omega⟩
theorem zS_lt (l b : Int) (xs ys : List Int) (t : Int) : 0 ≤ zR rS l b xs ys t ∧ zR rS l b xs ys t ≤ 64 := by
  obtain ⟨x, y, _, _, h, ⟨a, b⟩, c, d⟩ := zS_bd l b xs ys t
  rw [h]
  refine ⟨Int.mul_nonneg a c, ?_⟩
  have : x * y ≤ 8 * 8 := Int.mul_le_mul b d c (by omega)
  omega

set_option maxHeartbeats 800000 in
theorem specTileSquares (l b : Int) (a1 a2 : Option Addr) (c1 c2 : Nat) (xs ys : List Int) (t : Int) (w : World) (h : SetIn w a1 a2 xs ys) :
    Calls Tryd.prog 31 #[.agg #[.int .i64 l, .int .i64 b, .slice a1 xs.length c1, .slice a2 ys.length c2], .int .i64 t] w fun e w' => e = .returned (.int .i64 (zR rS l b xs ys t)) ∧ Below w.heap.size w w' := by
  obtain ⟨x, y, e1, e2, e3, ⟨x0, x1⟩, y0, y1⟩ := zS_bd l b xs ys t
  have HC : Hid (∀ w', Below w.heap.size w w' → Calls Tryd.prog 28 #[.agg #[.int .i64 l, .int .i64 b, .slice a1 xs.length c1, .slice a2 ys.length c2], .int .i64 t] w' _) := fun w' hb => specRect l b a1 a2 c1 c2 xs ys t w' (h.below hb (Nat.le_refl _))
  rw [e1, e2] at HC
  rw [e3]
  clear e1 e2 e3 h
  generalize zR rL l b xs ys t = vL at *
  generalize zR rT l b xs ys t = vT at *
  generalize okT l b xs ys t = o at *
  have d1 : Int.tdiv (8 * x) 8 = x := by rw [Int.tdiv_eq_ediv_of_nonneg (by omega)]; omega
  have d2 : Int.tdiv (8 * y) 8 = y := by rw [Int.tdiv_eq_ediv_of_nonneg (by omega)]; omega
  have HM : Hid (wrap64 (x * y) = x * y) := by
    have hh : x * y ≤ 8 * 8 := Int.mul_le_mul x1 y1 y0 (by omega)
    have h0 : 0 ≤ x * y := Int.mul_nonneg x0 y0
    exact IntWalk.wrap64_in _ ⟨by omega, by omega⟩
  go_enter Tryd.func31, Tryd.ntmps31
  go_wp2_with fail
  generalize hW : World.alloc w _ = W
  have hb0 : Below w.heap.size w W := by rw [← hW]; exact (Below.refl _ _).alloc (Nat.le_refl _) _
  clear hW
  refine (HC.out W hb0).mono ?_
  rintro e w1 ⟨rfl, hc⟩
  have hb1 := hb0.trans (hc.mono hb0.size)
  clear hc hb0 HC
  have hs1 := hb1.size
  go_wp2
  go_ret
  refine ⟨?_, by go_grown⟩
  show Ending.returned (.int .i64 (wrap64 (x * y))) = _
  rw [HM.out]
end Go.Proofs.YtigcoboaeibcjaaDoor
