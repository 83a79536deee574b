/-
  The walk of laws.FnExactSquareOk.
-/
import Derived.Test.YtnlbigjfnjcldaaSquareOks
import Derived.Deep.RegionHeld3
namespace Go.Proofs.Ytnlbigjfnjcldaa
open Go.RowKit
set_option linter.unusedVariables false
set_option maxRecDepth 20000

set_option maxHeartbeats 1600000 in
theorem fnExactSquareOk_walk (kd md dx dy : Int) (a : Option Addr) (xs : List Int) (c : Nat) (w : World) (h1 : Ints w a xs) (m1 : xs.length ≤ maxLen) :
    Calls Try.prog 3 #[sqV kd md dx dy a xs.length c] w fun e w' => e = .returned (.bool true) ∧ Below w.heap.size w w' := by
  have H : Hid (Ints w a xs) := h1
  clear h1
  go_enter Try.func3, Try.ntmps3
  go_wp2_with fail
  generalize hW : World.alloc w _ = W
  have B0 : Blk W w.heap.size (sqC kd md dx dy a xs.length c) 24 := by rw [← hW]; exact Blk.new w _ _
  have hb0 : Below w.heap.size w W := by rw [← hW]; exact (Below.refl _ _).alloc (Nat.le_refl _) _
  clear hW
  refine (szSquare_any _ _ _ _ _ _ _ _ W m1 (by decide) (by decide)).mono ?_
  rintro e w1 ⟨r, rfl, hr | ⟨hr, n1⟩, hc⟩
  · have hb1 := hb0.trans (hc.mono hb0.size)
    clear hc
    go_wp2
    go_ret
    exact ⟨rfl, hb1⟩
  have hb1 := hb0.trans (hc.mono hb0.size)
  have B1 := B0.below hc B0.lt
  clear hc hb0 B0
  have k1 : xs.length ≤ 1048576 := by omega
  obtain ⟨⟨x0, x1, x2, x3, x4⟩, _⟩ := B1.five
  go_wp2_with fail
  refine (toSquare_any _ _ _ _ _ _ _ w1 (H.out.below hb1 (Nat.le_refl _)) k1).mono ?_
  rintro e w2 ⟨u3, d3, rfl, _, i3, _, hc⟩
  have hb2 := hb1.trans (hc.mono hb1.size)
  have B2 := B1.below hc B1.lt
  clear hc hb1 B1 x0 x1 x2 x3 x4
  go_wp2_with fail
  refine (specSquareOk _ _ _ _ _ _ _ w2 i3 m1).mono ?_
  rintro e w3 ⟨rfl, hc⟩
  have hb3 := hb2.trans (hc.mono hb2.size)
  have B3 := B2.below hc B2.lt
  clear hc hb2 B2 i3
  obtain ⟨⟨x0, x1, x2, x3, x4⟩, _⟩ := B3.five
  go_wp2_with fail
  refine (toSquare_any _ _ _ _ _ _ _ w3 (H.out.below hb3 (Nat.le_refl _)) k1).mono ?_
  rintro e w4 ⟨a3, c3, rfl, _, i3, _, hc⟩
  have hb4 := hb3.trans (hc.mono hb3.size)
  have B4 := B3.below hc B3.lt
  have HI : Hid (Ints w4 a3 xs) := i3
  clear hc hb3 B3 x0 x1 x2 x3 x4 i3
  go_wp2_with fail
  have X5 : Blk (w4.alloc (.cells (sqC kd md dx dy a3 xs.length c3) 27)) w4.heap.size _ _ := Blk.new w4 _ _
  have B5 := B4.alloc (.cells (sqC kd md dx dy a3 xs.length c3) 27)
  have hb45 := (Below.refl w4.heap.size w4).alloc (Nat.le_refl _) (.cells (sqC kd md dx dy a3 xs.length c3) 27)
  have hb5 := hb4.alloc hb4.size (.cells (sqC kd md dx dy a3 xs.length c3) 27)
  generalize w4.alloc _ = w5 at *
  refine (implSquareOk _ _ _ _ _ _ _ w5 (HI.out.below hb45 (Nat.le_refl _)) m1).mono ?_
  rintro e w6 ⟨rfl, hc⟩
  have hb6 := hb5.trans (hc.mono hb5.size)
  have hb46 := hb45.trans (hc.mono hb45.size)
  have B6 := B5.below hc B5.lt
  have X6 := X5.below hc X5.lt
  have e6 : w4.heap.size < w6.heap.size := X6.lt
  have e7 : w.heap.size < w6.heap.size := B6.lt
  clear hc hb5 hb45 B5 X5 hb4 B4
  have BK : Hid (∀ w', Below w6.heap.size w6 w' → (w'.cell? ⟨w4.heap.size, 0, none⟩ = some (.int .i64 kd) ∧ w'.cell? ⟨w4.heap.size, 1, none⟩ = some (.int .i64 md) ∧ w'.cell? ⟨w4.heap.size, 2, none⟩ = some (.int .i64 dx) ∧ w'.cell? ⟨w4.heap.size, 3, none⟩ = some (.int .i64 dy) ∧ w'.cell? ⟨w4.heap.size, 4, none⟩ = some (.slice a3 xs.length c3)) ∧
      (w'.cell? ⟨w.heap.size, 0, none⟩ = some (.int .i64 kd) ∧ w'.cell? ⟨w.heap.size, 1, none⟩ = some (.int .i64 md) ∧ w'.cell? ⟨w.heap.size, 2, none⟩ = some (.int .i64 dx) ∧ w'.cell? ⟨w.heap.size, 3, none⟩ = some (.int .i64 dy) ∧ w'.cell? ⟨w.heap.size, 4, none⟩ = some (.slice a xs.length c))) :=
    fun w' h => ⟨(X6.below h X6.lt).five.1, (B6.below h B6.lt).five.1⟩
  have s0 := BK.out w6 (Below.refl _ _)
  obtain ⟨⟨x0, x1, x2, x3, x4⟩, y0, y1, y2, y3, y4⟩ := s0
  clear B6 X6
  go_wp2_with fail
  go_region_held3 (fun w' => (w'.cell? ⟨w4.heap.size, 0, none⟩ = some (.int .i64 kd) ∧ w'.cell? ⟨w4.heap.size, 1, none⟩ = some (.int .i64 md) ∧ w'.cell? ⟨w4.heap.size, 2, none⟩ = some (.int .i64 dx) ∧ w'.cell? ⟨w4.heap.size, 3, none⟩ = some (.int .i64 dy) ∧ w'.cell? ⟨w4.heap.size, 4, none⟩ = some (.slice a3 xs.length c3)) ∧
      (w'.cell? ⟨w.heap.size, 0, none⟩ = some (.int .i64 kd) ∧ w'.cell? ⟨w.heap.size, 1, none⟩ = some (.int .i64 md) ∧ w'.cell? ⟨w.heap.size, 2, none⟩ = some (.int .i64 dx) ∧ w'.cell? ⟨w.heap.size, 3, none⟩ = some (.int .i64 dy) ∧ w'.cell? ⟨w.heap.size, 4, none⟩ = some (.slice a xs.length c)))
    (first | go_keep | exact BK.out _ hc7 | exact BK.out _ (hc7.trans (hc8.mono hc7.size)))
    (first
      | (go_at_call 6; refine (toSquare_any _ _ _ _ _ _ _ _ (H.out.below hb6.drew (Nat.le_refl _)) k1).mono ?_; rintro e w7 ⟨a5, c5, rfl, _, i5, _, hr7⟩; have hc7 : Below w6.heap.size w6 w7 := (Below.refl w6.heap.size w6).drew.trans hr7; have HJ : Hid (Ints w7 a5 xs) := i5; clear hr7 i5)
      | (go_at_call 8; refine (eqSquare_any _ _ _ _ _ _ _ _ _ _ ((HI.out.below hb46 (Nat.le_refl _)).below hc7 (Nat.le_refl _)) HJ.out k1).mono ?_; rintro e w8 ⟨rfl, hc8⟩))
  all_goals
    have hb8 : Below w.heap.size w w8 := (hb6.trans (hc7.mono hb6.size)).trans (hc8.mono (Nat.le_trans hb6.size hc7.size))
    clear hc7 hc8
    go_wp2
    go_ret
    exact ⟨rfl, hb8⟩
end Go.Proofs.Ytnlbigjfnjcldaa
