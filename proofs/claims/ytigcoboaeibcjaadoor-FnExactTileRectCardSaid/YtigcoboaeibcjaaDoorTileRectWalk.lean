/-
  The walk of laws.FnExactTileRect.
-/
import Derived.Test.YtigcoboaeibcjaaDoorSeqKit
import Derived.Test.YtigcoboaeibcjaaDoorSeqArg
import Derived.Test.YtigcoboaeibcjaaDoorGridSqI
namespace Go.Proofs.YtigcoboaeibcjaaDoor
open Go.RowKit
set_option linter.unusedVariables false
set_option maxRecDepth 20000

set_option maxHeartbeats 1600000 in
theorem fnExactTileRect_walk (l b : Int) (a1 a2 : Option Addr) (xs ys : List Int) (c1 c2 : Nat) (t : Int) (w : World) (hE : ErrT w) (h1 : Ints w a1 xs) (h2 : Ints w a2 ys) (m1 : xs.length ≤ maxLen) (m2 : ys.length ≤ maxLen) :
    Calls Tryd.prog 7 #[.agg #[.int .i64 l, .int .i64 b, .slice a1 xs.length c1, .slice a2 ys.length c2], .int .i64 t] w fun e w' => e = .returned (.bool true) ∧ Below w.heap.size w w' := by
  have H : Hid (Ints w a1 xs ∧ Ints w a2 ys) := ⟨h1, h2⟩
  have E : Hid (∀ w', Below w.heap.size w w' → ErrT w') := fun w' hb => hE.below hb (Nat.le_refl _)
  clear h1 h2 hE
  go_enter Tryd.func7, Tryd.ntmps7
  go_wp2_with fail
  generalize hW : World.alloc w _ = W
  have B0 : Blk W w.heap.size #[.int .i64 l, .int .i64 b, .slice a1 xs.length c1, .slice a2 ys.length c2] 46 := by rw [← hW]; exact Blk.new w _ _
  have hb0 : Below w.heap.size w W := by rw [← hW]; exact (Below.refl _ _).alloc (Nat.le_refl _) _
  clear hW
  refine (szSeq_any _ _ _ _ _ _ _ _ W m1 m2).mono ?_
  rintro e w1 ⟨r, rfl, hr | ⟨hr, n1, n2⟩, hc⟩
  · have hb1 := hb0.trans (hc.mono hb0.size)
    clear hc
    go_wp2
    go_ret
    exact ⟨rfl, hb1⟩
  have hb1 := hb0.trans (hc.mono hb0.size)
  have B1 := B0.below hc B0.lt
  clear hc hb0 B0
  have k1 : xs.length ≤ 1048576 := by omega
  have k2 : ys.length ≤ 1048576 := by omega
  obtain ⟨⟨x0, x1, x2, x3⟩, _⟩ := B1.four
  go_wp2_with fail
  refine (toSeq_any _ _ _ _ _ _ _ _ w1 (H.out.1.below hb1 (Nat.le_refl _)) (H.out.2.below hb1 (Nat.le_refl _)) k1 k2).mono ?_
  rintro e w2 ⟨u3, u4, d3, d4, rfl, i3, i4, hc⟩
  have hb2 := hb1.trans (hc.mono hb1.size)
  have B2 := B1.below hc B1.lt
  clear hc hb1 B1 x0 x1 x2 x3
  go_wp2_with fail
  refine (specRect _ _ _ _ _ _ _ _ _ w2 ⟨⟨i3, i4, E.out w2 hb2⟩, m1, m2⟩).mono ?_
  rintro e w3 ⟨rfl, hc⟩
  have hb3 := hb2.trans (hc.mono hb2.size)
  have B3 := B2.below hc B2.lt
  clear hc hb2 B2 i3 i4
  have D3 := Blk.new w3 #[.int .i64 (zR rL l b xs ys t), .int .i64 (zR rT l b xs ys t), .int .i64 (zR rW l b xs ys t), .int .i64 (zR rH l b xs ys t)] 41
  replace B3 := B3.alloc (.cells #[.int .i64 (zR rL l b xs ys t), .int .i64 (zR rT l b xs ys t), .int .i64 (zR rW l b xs ys t), .int .i64 (zR rH l b xs ys t)] 41)
  replace hb3 := hb3.alloc hb3.size (.cells #[.int .i64 (zR rL l b xs ys t), .int .i64 (zR rT l b xs ys t), .int .i64 (zR rW l b xs ys t), .int .i64 (zR rH l b xs ys t)] 41)
  obtain ⟨⟨x0, x1, x2, x3⟩, _⟩ := B3.four
  go_wp2_with fail
  generalize w3.alloc _ = w3b at *
  generalize w3.heap.size = kd at *
  clear w3
  rename World => w3
  refine (toSeq_any _ _ _ _ _ _ _ _ w3 (H.out.1.below hb3 (Nat.le_refl _)) (H.out.2.below hb3 (Nat.le_refl _)) k1 k2).mono ?_
  rintro e w4 ⟨a3, a4, c3, c4, rfl, i3, i4, hc⟩
  have hb4 := hb3.trans (hc.mono hb3.size)
  have B4 := B3.below hc B3.lt
  have HI : Hid (Ints w4 a3 xs ∧ Ints w4 a4 ys) := ⟨i3, i4⟩
  have D4 := D3.below hc D3.lt
  clear D3
  clear hc hb3 B3 x0 x1 x2 x3 i3 i4
  go_wp2_with fail
  have X5 : Blk (w4.alloc (.cells #[.int .i64 l, .int .i64 b, .slice a3 xs.length c3, .slice a4 ys.length c4] 26)) w4.heap.size _ _ := Blk.new w4 _ _
  have B5 := B4.alloc (.cells #[.int .i64 l, .int .i64 b, .slice a3 xs.length c3, .slice a4 ys.length c4] 26)
  have hb45 := (Below.refl w4.heap.size w4).alloc (Nat.le_refl _) (.cells #[.int .i64 l, .int .i64 b, .slice a3 xs.length c3, .slice a4 ys.length c4] 26)
  have hb5 := hb4.alloc hb4.size (.cells #[.int .i64 l, .int .i64 b, .slice a3 xs.length c3, .slice a4 ys.length c4] 26)
  have D5 := D4.alloc (.cells #[.int .i64 l, .int .i64 b, .slice a3 xs.length c3, .slice a4 ys.length c4] 26)
  clear D4
  generalize w4.alloc _ = w5 at *
  refine (implRect _ _ _ _ _ _ _ _ _ w5 ⟨⟨HI.out.1.below hb45 (Nat.le_refl _), HI.out.2.below hb45 (Nat.le_refl _), E.out w5 hb5⟩, m1, m2⟩).mono ?_
  rintro e w6 ⟨rfl, hc⟩
  have hb6 := hb5.trans (hc.mono hb5.size)
  have hb46 := hb45.trans (hc.mono hb45.size)
  have B6 := B5.below hc B5.lt
  have X6 := X5.below hc X5.lt
  have e6 : w4.heap.size < w6.heap.size := X6.lt
  have e7 : w.heap.size < w6.heap.size := B6.lt
  have D6 := D5.below hc D5.lt
  clear D5
  clear hc hb5 hb45 B5 X5 hb4 B4
  have E7 := Blk.new w6 #[.int .i64 (zR rL l b xs ys t), .int .i64 (zR rT l b xs ys t), .int .i64 (zR rW l b xs ys t), .int .i64 (zR rH l b xs ys t)] 41
  replace D6 := D6.alloc (.cells #[.int .i64 (zR rL l b xs ys t), .int .i64 (zR rT l b xs ys t), .int .i64 (zR rW l b xs ys t), .int .i64 (zR rH l b xs ys t)] 41)
  replace B6 := B6.alloc (.cells #[.int .i64 (zR rL l b xs ys t), .int .i64 (zR rT l b xs ys t), .int .i64 (zR rW l b xs ys t), .int .i64 (zR rH l b xs ys t)] 41)
  replace X6 := X6.alloc (.cells #[.int .i64 (zR rL l b xs ys t), .int .i64 (zR rT l b xs ys t), .int .i64 (zR rW l b xs ys t), .int .i64 (zR rH l b xs ys t)] 41)
  replace hb46 := hb46.alloc hb46.size (.cells #[.int .i64 (zR rL l b xs ys t), .int .i64 (zR rT l b xs ys t), .int .i64 (zR rW l b xs ys t), .int .i64 (zR rH l b xs ys t)] 41)
  replace hb6 := hb6.alloc hb6.size (.cells #[.int .i64 (zR rL l b xs ys t), .int .i64 (zR rT l b xs ys t), .int .i64 (zR rW l b xs ys t), .int .i64 (zR rH l b xs ys t)] 41)
  obtain ⟨p0, p1, p2, p3⟩ := D6.four.1
  obtain ⟨q0, q1, q2, q3⟩ := E7.four.1
  generalize zR rL l b xs ys t = vL at *
  generalize zR rT l b xs ys t = vT at *
  generalize zR rW l b xs ys t = vW at *
  generalize zR rH l b xs ys t = vH at *
  generalize okT l b xs ys t = o at *
  clear e6 e7
  go_wp2_with fail
  refine (eqRect_any _ _ _ _ _).mono ?_
  generalize w6.alloc _ = w6b at *
  rintro e wE ⟨rfl, hcE⟩
  replace B6 := B6.below hcE B6.lt
  replace X6 := X6.below hcE X6.lt
  replace hb46 := hb46.trans (hcE.mono hb46.size)
  replace hb6 := hb6.trans (hcE.mono hb6.size)
  clear hcE D6 E7 p0 p1 p2 p3 q0 q1 q2 q3
  generalize w6.heap.size = ke at *
  clear w6 w6b
  rename World => w6
  have e6 : w4.heap.size < w6.heap.size := X6.lt
  have e7 : w.heap.size < w6.heap.size := B6.lt
  have BK : Hid (∀ w', Below w6.heap.size w6 w' → (w'.cell? ⟨w4.heap.size, 0, none⟩ = some (.int .i64 l) ∧ w'.cell? ⟨w4.heap.size, 1, none⟩ = some (.int .i64 b) ∧ w'.cell? ⟨w4.heap.size, 2, none⟩ = some (.slice a3 xs.length c3) ∧ w'.cell? ⟨w4.heap.size, 3, none⟩ = some (.slice a4 ys.length c4)) ∧
      (w'.cell? ⟨w.heap.size, 0, none⟩ = some (.int .i64 l) ∧ w'.cell? ⟨w.heap.size, 1, none⟩ = some (.int .i64 b) ∧ w'.cell? ⟨w.heap.size, 2, none⟩ = some (.slice a1 xs.length c1) ∧ w'.cell? ⟨w.heap.size, 3, none⟩ = some (.slice a2 ys.length c2))) :=
    fun w' h => ⟨(X6.below h X6.lt).four.1, (B6.below h B6.lt).four.1⟩
  have s0 := BK.out w6 (Below.refl _ _)
  obtain ⟨⟨x0, x1, x2, x3⟩, y0, y1, y2, y3⟩ := s0
  clear B6 X6
  go_wp2_with fail
  go_region_held3 (fun w' => (w'.cell? ⟨w4.heap.size, 0, none⟩ = some (.int .i64 l) ∧ w'.cell? ⟨w4.heap.size, 1, none⟩ = some (.int .i64 b) ∧ w'.cell? ⟨w4.heap.size, 2, none⟩ = some (.slice a3 xs.length c3) ∧ w'.cell? ⟨w4.heap.size, 3, none⟩ = some (.slice a4 ys.length c4)) ∧
      (w'.cell? ⟨w.heap.size, 0, none⟩ = some (.int .i64 l) ∧ w'.cell? ⟨w.heap.size, 1, none⟩ = some (.int .i64 b) ∧ w'.cell? ⟨w.heap.size, 2, none⟩ = some (.slice a1 xs.length c1) ∧ w'.cell? ⟨w.heap.size, 3, none⟩ = some (.slice a2 ys.length c2)))
    (first | go_keep | exact BK.out _ hc7 | exact BK.out _ (hc7.trans (hc8.mono hc7.size)))
    (first
      | (go_at_call 25; refine (toSeq_any _ _ _ _ _ _ _ _ _ (H.out.1.below hb6.drew (Nat.le_refl _)) (H.out.2.below hb6.drew (Nat.le_refl _)) k1 k2).mono ?_; rintro e w7 ⟨a5, a6, c5, c6, rfl, i5, i6, hr7⟩; have hc7 : Below w6.heap.size w6 w7 := (Below.refl w6.heap.size w6).drew.trans hr7; have HJ : Hid (Ints w7 a5 xs ∧ Ints w7 a6 ys) := ⟨i5, i6⟩; clear i5 i6 hr7)
      | (go_at_call 26; refine (eqSeq_any _ _ _ _ _ _ _ _ _ _ _ _ _ ((HI.out.1.below hb46 (Nat.le_refl _)).below hc7 (Nat.le_refl _)) ((HI.out.2.below hb46 (Nat.le_refl _)).below hc7 (Nat.le_refl _)) HJ.out.1 HJ.out.2 k1 k2).mono ?_; rintro e w8 ⟨rfl, hc8⟩))
  all_goals
    have hb8 : Below w.heap.size w w8 := (hb6.trans (hc7.mono hb6.size)).trans (hc8.mono (Nat.le_trans hb6.size hc7.size))
    clear hc7 hc8
    go_wp2
    go_ret
    exact ⟨rfl, hb8⟩
end Go.Proofs.YtigcoboaeibcjaaDoor
