/-
  Sets in the exact laws: the walks of laws.szSeq, laws.toSeq and laws.eqSeq.
-/
import Derived.Test.YtdokmojifkggjaaDoorIntKit
import Derived.Test.YtdokmojifkggjaaDoorBlkKit
namespace Go.Proofs.YtdokmojifkggjaaDoor
open Go.RowKit
set_option linter.unusedVariables false
set_option maxRecDepth 20000

set_option maxHeartbeats 800000 in
theorem szSeq_any (l b : Int) (a1 a2 : Option Addr) (n1 n2 c1 c2 : Nat) (w : World) (h1 : n1 ≤ maxLen) (h2 : n2 ≤ maxLen) :
    Calls Tryd.prog 15 #[.agg #[.int .i64 l, .int .i64 b, .slice a1 n1 c1, .slice a2 n2 c2], .int .i64 1048576] w fun e w' => ∃ r : Int, e = .returned (.int .i64 r) ∧ (r < 0 ∨ (0 ≤ r ∧ (n1 : Int) ≤ 1048576 ∧ (n2 : Int) ≤ 1048576)) ∧ Below w.heap.size w w' := by
  have hbA := (Below.refl w.heap.size w).alloc (Nat.le_refl _) (.cells #[.int .i64 l, .int .i64 b, .slice a1 n1 c1, .slice a2 n2 c2] 42)
  go_enter Tryd.func15, Tryd.ntmps15
  go_wp2_with fail
  refine (szIntS_any _ _ _ _ _ h1 (by omega) (by omega)).mono ?_
  rintro e w1 ⟨rfl | ⟨r, rfl, r0, r1, hn1⟩, hw⟩
  · subst w1
    go_wp2
    go_ret
    exact ⟨_, rfl, .inl (by decide), hbA⟩
  · subst w1
    go_wp2_with fail
    refine (szIntS_any _ _ _ _ _ h2 r0 r1).mono ?_
    rintro e w1 ⟨rfl | ⟨q, rfl, q0, q1, hn2⟩, hw⟩
    · subst w1
      go_wp2
      go_ret
      exact ⟨_, rfl, .inl (by decide), hbA⟩
    · subst w1
      go_wp2
      go_ret
      exact ⟨_, rfl, .inr ⟨q0, hn1, hn2⟩, hbA⟩

set_option maxHeartbeats 800000 in
theorem toSeq_any (l b : Int) (a1 a2 : Option Addr) (c1 c2 : Nat) (xs ys : List Int) (w : World) (h1 : Ints w a1 xs) (h2 : Ints w a2 ys) (hl1 : xs.length ≤ 1048576) (hl2 : ys.length ≤ 1048576) :
    Calls Tryd.prog 17 #[.agg #[.int .i64 l, .int .i64 b, .slice a1 xs.length c1, .slice a2 ys.length c2]] w fun e w' => ∃ a3 a4 c3 c4, e = .returned (.agg #[.int .i64 l, .int .i64 b, .slice a3 xs.length c3, .slice a4 ys.length c4]) ∧ Ints w' a3 xs ∧ Ints w' a4 ys ∧ Below w.heap.size w w' := by
  have H1 : Hid (Ints w a1 xs) := h1
  have H2 : Hid (Ints w a2 ys) := h2
  clear h1 h2
  go_enter Tryd.func17, Tryd.ntmps17
  go_wp2_with fail
  generalize hW : World.alloc (World.alloc (World.alloc w _) _) _ = W
  have hs : W.heap.size = w.heap.size + 3 := by rw [← hW]; simp
  have B0 : Blk W w.heap.size #[.int .i64 l, .int .i64 b, .slice a1 xs.length c1, .slice a2 ys.length c2] 42 := by rw [← hW]; exact ((Blk.new w _ _).alloc _).alloc _
  have B1 : Blk W (w.heap.size + 1) #[.int .i64 0, .int .i64 0, .slice none 0 0, .slice none 0 0] 26 := by rw [← hW]; exact (Blk.new' _ _ (by simp)).alloc _
  have B2 : Blk W (w.heap.size + 1 + 1) #[.int .i64 l, .int .i64 b, .slice none 0 0, .slice none 0 0] 26 := by rw [← hW]; exact Blk.new' _ _ (by simp)
  have hb0 : Below w.heap.size w W := by rw [← hW]; exact (((Below.refl _ _).alloc (Nat.le_refl _) _).alloc (by simp) _).alloc (by simp; omega) _
  clear hW
  refine (toIntS_any _ _ _ W (H1.out.below hb0 (Nat.le_refl _)) hl1).mono ?_
  rintro e w1 ⟨v1, rfl, ho1, hb1⟩
  obtain ⟨a3, c3, rfl, i3, j3⟩ := ints_of_owns ho1
  have HI3 : Hid (Ints w1 a3 xs ∧ ∀ p, a3 = some p → w.heap.size + 3 ≤ p.block) := ⟨i3, fun p hp => by have := j3 p hp; omega⟩
  clear ho1 i3 j3
  have C0 := B0.below hb1 (by omega)
  have C1 := B1.below hb1 (by omega)
  have C2 := B2.below hb1 (by omega)
  have hb1' := hb0.trans (hb1.mono (by omega))
  have hs1 : w.heap.size + 3 ≤ w1.heap.size := by have := hb1.size; omega
  clear B0 B1 B2 hb0 hb1 hs
  obtain ⟨⟨x0, x1, x2, x3⟩, _⟩ := C0.four
  obtain ⟨⟨y0, y1, y2, y3⟩, f0, f1, f2, f3⟩ := C2.four
  have D0 : Blk (w1.setCell ⟨w.heap.size + 1 + 1, 2, none⟩ (.slice a3 xs.length c3)) w.heap.size _ _ := C0.other _ _ (by simp; omega)
  have D1 : Blk (w1.setCell ⟨w.heap.size + 1 + 1, 2, none⟩ (.slice a3 xs.length c3)) (w.heap.size + 1) _ _ := C1.other _ _ (by simp)
  have D2 : Blk (w1.setCell ⟨w.heap.size + 1 + 1, 2, none⟩ (.slice a3 xs.length c3)) (w.heap.size + 1 + 1) _ _ := C2.set 2 _ (by simp)
  have hb2 : Below w.heap.size w (w1.setCell ⟨w.heap.size + 1 + 1, 2, none⟩ (.slice a3 xs.length c3)) := hb1'.setCell (by simp; omega) _
  clear C0 C1 C2
  go_wp2_with fail
  have HJ3 : Hid (Ints (w1.setCell ⟨w.heap.size + 1 + 1, 2, none⟩ (.slice a3 xs.length c3)) a3 xs) := HI3.out.1.set _ _ (fun p hp => by have := HI3.out.2 p hp; simp; omega)
  have hs2 : w.heap.size + 3 ≤ (w1.setCell ⟨w.heap.size + 1 + 1, 2, none⟩ (.slice a3 xs.length c3)).heap.size := by simpa using hs1
  clear x0 x1 x2 x3 y0 y1 y2 y3 f0 f1 f2 f3 hb1' hs1
  generalize w1.setCell _ _ = W2 at *
  refine (toIntS_any _ _ _ W2 (H2.out.below hb2 (Nat.le_refl _)) hl2).mono ?_
  rintro e w2 ⟨v2, rfl, ho2, hb3⟩
  obtain ⟨a4, c4, rfl, i4, j4⟩ := ints_of_owns ho2
  have HI4 : Hid ((Ints w2 a4 ys ∧ ∀ p, a4 = some p → w.heap.size + 3 ≤ p.block) ∧ (Ints w2 a3 xs ∧ ∀ p, a3 = some p → w.heap.size + 3 ≤ p.block)) := ⟨⟨i4, fun p hp => by have := j4 p hp; omega⟩, HJ3.out.below hb3 (Nat.le_refl _), HI3.out.2⟩
  clear ho2 i4 j4 HJ3 HI3
  have C1 := D1.below hb3 (by omega)
  have C2 := D2.below hb3 (by omega)
  have hb4 := hb2.trans (hb3.mono (by omega))
  have hs3 : w.heap.size + 3 ≤ w2.heap.size := by have := hb3.size; omega
  clear D0 D1 D2 hb2 hb3 hs2
  obtain ⟨⟨x0, x1, x2, x3⟩, e0, e1, e2, e3⟩ := C1.four
  obtain ⟨⟨y0, y1, y2, y3⟩, f0, f1, f2, f3⟩ := C2.four
  have F1 : Blk (((((w2.setCell ⟨w.heap.size + 1 + 1, 3, none⟩ (.slice a4 ys.length c4)).setCell ⟨w.heap.size + 1, 0, none⟩ (.int .i64 l)).setCell ⟨w.heap.size + 1, 1, none⟩ (.int .i64 b)).setCell ⟨w.heap.size + 1, 2, none⟩ (.slice a3 xs.length c3)).setCell ⟨w.heap.size + 1, 3, none⟩ (.slice a4 ys.length c4)) (w.heap.size + 1) #[.int .i64 l, .int .i64 b, .slice a3 xs.length c3, .slice a4 ys.length c4] 26 :=
    (((((C1.other ⟨w.heap.size + 1 + 1, 3, none⟩ (.slice a4 ys.length c4) (by simp)).set 0 (.int .i64 l) (by simp)).set 1 (.int .i64 b) (by simp)).set 2 (.slice a3 xs.length c3) (by simp)).set 3 (.slice a4 ys.length c4) (by simp))
  have HF1 : Hid (Blk _ _ _ _) := F1
  clear C1 C2 F1
  go_wp2
  (try simp only [Exit.inBlock, Exit.then])
  refine bodyPost_ret (results_cell_row rfl _ _ (w.heap.size + 1) 26 _ (0, 0) _ rfl HF1.out Tryd.underlying26 rfl (by kernel_rfl)) rfl ?_
  refine ⟨a3, a4, c3, c4, rfl, ?_, ?_, ?_⟩
  · have h := HI4.out.2.2
    refine ((((HI4.out.2.1.set _ _ ?_).set _ _ ?_).set _ _ ?_).set _ _ ?_).set _ _ ?_
    all_goals exact fun p hp => by have := h p hp; simp; omega
  · have h := HI4.out.1.2
    refine ((((HI4.out.1.1.set _ _ ?_).set _ _ ?_).set _ _ ?_).set _ _ ?_).set _ _ ?_
    all_goals exact fun p hp => by have := h p hp; simp; omega
  · go_grown

set_option maxHeartbeats 800000 in
theorem eqSeq_any (l b : Int) (a1 a2 a3 a4 : Option Addr) (c1 c2 c3 c4 : Nat) (xs ys : List Int) (w : World) (h1 : Ints w a1 xs) (h2 : Ints w a2 ys) (h3 : Ints w a3 xs) (h4 : Ints w a4 ys) (hl1 : xs.length ≤ 1048576) (hl2 : ys.length ≤ 1048576) :
    Calls Tryd.prog 20 #[.agg #[.int .i64 l, .int .i64 b, .slice a1 xs.length c1, .slice a2 ys.length c2], .agg #[.int .i64 l, .int .i64 b, .slice a3 xs.length c3, .slice a4 ys.length c4]] w fun e w' => e = .returned (.bool true) ∧ Below w.heap.size w w' := by
  have H1 : Hid (Ints w a1 xs ∧ Ints w a3 xs) := ⟨h1, h3⟩
  have H2 : Hid (Ints w a2 ys ∧ Ints w a4 ys) := ⟨h2, h4⟩
  clear h1 h2 h3 h4
  go_enter Tryd.func20, Tryd.ntmps20
  go_wp2_with fail
  generalize hW : World.alloc (World.alloc w _) _ = W
  have hs : W.heap.size = w.heap.size + 2 := by rw [← hW]; simp
  have B0 : Blk W w.heap.size #[.int .i64 l, .int .i64 b, .slice a1 xs.length c1, .slice a2 ys.length c2] 26 := by rw [← hW]; exact (Blk.new w _ _).alloc _
  have B1 : Blk W (w.heap.size + 1) #[.int .i64 l, .int .i64 b, .slice a3 xs.length c3, .slice a4 ys.length c4] 26 := by rw [← hW]; exact Blk.new' _ _ (by simp)
  have hb0 : Below w.heap.size w W := by rw [← hW]; exact ((Below.refl _ _).alloc (Nat.le_refl _) _).alloc (by simp) _
  clear hW
  refine (eqIntS_any _ _ _ _ _ W (H1.out.1.below hb0 (Nat.le_refl _)) (H1.out.2.below hb0 (Nat.le_refl _)) (by omega)).mono ?_
  rintro e w1 ⟨rfl, hb1⟩
  obtain ⟨⟨x0, x1, x2, x3⟩, _⟩ := (B0.below hb1 (by omega)).four
  obtain ⟨⟨y0, y1, y2, y3⟩, _⟩ := (B1.below hb1 (by omega)).four
  have hb2 := hb0.trans (hb1.mono (by omega))
  clear B0 B1 hb0 hb1
  go_wp2_with fail
  refine (eqIntS_any _ _ _ _ _ w1 (H2.out.1.below hb2 (Nat.le_refl _)) (H2.out.2.below hb2 (Nat.le_refl _)) (by omega)).mono ?_
  rintro e w2 ⟨rfl, hb3⟩
  go_wp2
  go_ret
  exact ⟨rfl, hb2.trans (hb3.mono hb2.size)⟩
end Go.Proofs.YtdokmojifkggjaaDoor
