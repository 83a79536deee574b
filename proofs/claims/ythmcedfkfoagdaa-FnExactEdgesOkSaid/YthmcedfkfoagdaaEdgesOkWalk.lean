/-
  The walk of laws.FnExactEdgesOk.
-/
import Derived.Test.YthmcedfkfoagdaaEdgeOkKit
import Derived.Test.YthmcedfkfoagdaaEdgeKit
namespace Go.Proofs.Ythmcedfkfoagdaa
open Go.RowKit
set_option linter.unusedVariables false
set_option maxRecDepth 20000

set_option maxHeartbeats 1600000 in
theorem fnExactEdgesOk_walk (a1 a2 : Option Addr) (xs ys : List Int) (c1 c2 : Nat) (c : Int) (w : World) (h1 : Ints w a1 xs) (h2 : Ints w a2 ys) (m1 : xs.length ≤ maxLen) (m2 : ys.length ≤ maxLen) :
    Calls Try.prog 6 #[edgV a1 xs.length c1 a2 ys.length c2 c] w fun e w' => e = .returned (.bool true) ∧ Below w.heap.size w w' := by
  have H : Hid (Ints w a1 xs ∧ Ints w a2 ys) := ⟨h1, h2⟩
  clear h1 h2
  go_enter Try.func6, Try.ntmps6
  go_wp2_with fail
  generalize hW : World.alloc w _ = W
  have B0 : Blk W w.heap.size #[.slice a1 xs.length c1, .slice a2 ys.length c2, .int .i64 c] 45 := by rw [← hW]; exact Blk.new w _ _
  have hb0 : Below w.heap.size w W := by rw [← hW]; exact (Below.refl _ _).alloc (Nat.le_refl _) _
  clear hW
  refine (szEdges_any _ _ _ _ _ _ _ _ W m1 m2 (by decide) (by decide)).mono ?_
  rintro e w1 ⟨r, rfl, hr | ⟨hr, n1, n2⟩, hc⟩
  · have hb1 := hb0.trans (hc.mono hb0.size)
    clear hc
    go_wp2
    go_ret
    exact ⟨rfl, hb1⟩
  have hb1 := hb0.trans (hc.mono hb0.size)
  have B1 := B0.below hc B0.lt
  clear hc hb0 B0
  have k1 : xs.length ≤ 1048576 := by omega
  have k2 : ys.length ≤ 1048576 := by omega
  obtain ⟨⟨x0, x1, x2⟩, _⟩ := B1.three
  go_wp2_with fail
  refine (toEdges_any _ _ _ _ _ _ _ w1 (H.out.1.below hb1 (Nat.le_refl _)) (H.out.2.below hb1 (Nat.le_refl _)) k1 k2).mono ?_
  rintro e w2 ⟨u3, u4, d3, d4, rfl, i3, i4, _, _, hc⟩
  have hb2 := hb1.trans (hc.mono hb1.size)
  have B2 := B1.below hc B1.lt
  clear hc hb1 B1 x0 x1 x2
  go_wp2_with fail
  refine (specEdgesOk _ _ _ _ _ _ _ w2 i3 i4 m1 m2).mono ?_
  rintro e w3 ⟨rfl, hc⟩
  have hb3 := hb2.trans (hc.mono hb2.size)
  have B3 := B2.below hc B2.lt
  clear hc hb2 B2 i3 i4
  obtain ⟨⟨x0, x1, x2⟩, _⟩ := B3.three
  go_wp2_with fail
  refine (toEdges_any _ _ _ _ _ _ _ w3 (H.out.1.below hb3 (Nat.le_refl _)) (H.out.2.below hb3 (Nat.le_refl _)) k1 k2).mono ?_
  rintro e w4 ⟨a3, a4, c3, c4, rfl, i3, i4, _, _, hc⟩
  have hb4 := hb3.trans (hc.mono hb3.size)
  have B4 := B3.below hc B3.lt
  have HI : Hid (Ints w4 a3 xs ∧ Ints w4 a4 ys) := ⟨i3, i4⟩
  clear hc hb3 B3 x0 x1 x2 i3 i4
  go_wp2_with fail
  have X5 : Blk (w4.alloc (.cells #[.slice a3 xs.length c3, .slice a4 ys.length c4, .int .i64 c] 26)) w4.heap.size _ _ := Blk.new w4 _ _
  have B5 := B4.alloc (.cells #[.slice a3 xs.length c3, .slice a4 ys.length c4, .int .i64 c] 26)
  have hb45 := (Below.refl w4.heap.size w4).alloc (Nat.le_refl _) (.cells #[.slice a3 xs.length c3, .slice a4 ys.length c4, .int .i64 c] 26)
  have hb5 := hb4.alloc hb4.size (.cells #[.slice a3 xs.length c3, .slice a4 ys.length c4, .int .i64 c] 26)
  generalize w4.alloc _ = w5 at *
  refine (implEdgesOk _ _ _ _ _ _ _ w5 (HI.out.1.below hb45 (Nat.le_refl _)) (HI.out.2.below hb45 (Nat.le_refl _)) m1 m2).mono ?_
  rintro e w6 ⟨rfl, hc⟩
  have hb6 := hb5.trans (hc.mono hb5.size)
  have hb46 := hb45.trans (hc.mono hb45.size)
  have B6 := B5.below hc B5.lt
  have X6 := X5.below hc X5.lt
  have e6 : w4.heap.size < w6.heap.size := X6.lt
  have e7 : w.heap.size < w6.heap.size := B6.lt
  clear hc hb5 hb45 B5 X5 hb4 B4
  have BK : Hid (∀ w', Below w6.heap.size w6 w' → (w'.cell? ⟨w4.heap.size, 0, none⟩ = some (.slice a3 xs.length c3) ∧ w'.cell? ⟨w4.heap.size, 1, none⟩ = some (.slice a4 ys.length c4) ∧ w'.cell? ⟨w4.heap.size, 2, none⟩ = some (.int .i64 c)) ∧
      (w'.cell? ⟨w.heap.size, 0, none⟩ = some (.slice a1 xs.length c1) ∧ w'.cell? ⟨w.heap.size, 1, none⟩ = some (.slice a2 ys.length c2) ∧ w'.cell? ⟨w.heap.size, 2, none⟩ = some (.int .i64 c))) :=
    fun w' h => ⟨(X6.below h X6.lt).three.1, (B6.below h B6.lt).three.1⟩
  have s0 := BK.out w6 (Below.refl _ _)
  obtain ⟨⟨x0, x1, x2⟩, y0, y1, y2⟩ := s0
  clear B6 X6
  go_wp2_with fail
  go_region_held3 (fun w' => (w'.cell? ⟨w4.heap.size, 0, none⟩ = some (.slice a3 xs.length c3) ∧ w'.cell? ⟨w4.heap.size, 1, none⟩ = some (.slice a4 ys.length c4) ∧ w'.cell? ⟨w4.heap.size, 2, none⟩ = some (.int .i64 c)) ∧
      (w'.cell? ⟨w.heap.size, 0, none⟩ = some (.slice a1 xs.length c1) ∧ w'.cell? ⟨w.heap.size, 1, none⟩ = some (.slice a2 ys.length c2) ∧ w'.cell? ⟨w.heap.size, 2, none⟩ = some (.int .i64 c)))
    (first | go_keep | exact BK.out _ hc7 | exact BK.out _ (hc7.trans (hc8.mono hc7.size)))
    (first
      | (go_at_call 29; refine (toEdges_any _ _ _ _ _ _ _ _ (H.out.1.below hb6.drew (Nat.le_refl _)) (H.out.2.below hb6.drew (Nat.le_refl _)) k1 k2).mono ?_; rintro e w7 ⟨a5, a6, c5, c6, rfl, i5, i6, _, _, hr7⟩; have hc7 : Below w6.heap.size w6 w7 := (Below.refl w6.heap.size w6).drew.trans hr7; have HJ : Hid (Ints w7 a5 xs ∧ Ints w7 a6 ys) := ⟨i5, i6⟩; clear i5 i6 hr7)
      | (go_at_call 24; refine (eqEdges_any _ _ _ _ _ _ _ _ _ _ _ _ ((HI.out.1.below hb46 (Nat.le_refl _)).below hc7 (Nat.le_refl _)) ((HI.out.2.below hb46 (Nat.le_refl _)).below hc7 (Nat.le_refl _)) HJ.out.1 HJ.out.2 k1 k2).mono ?_; rintro e w8 ⟨rfl, hc8⟩))
  all_goals
    have hb8 : Below w.heap.size w w8 := (hb6.trans (hc7.mono hb6.size)).trans (hc8.mono (Nat.le_trans hb6.size hc7.size))
    clear hc7 hc8
    go_wp2
    go_ret
    exact ⟨rfl, hb8⟩
end Go.Proofs.Ythmcedfkfoagdaa
