/-
  Edges in the exact laws: the walks of laws.szEdges, laws.toEdges, laws.eqEdges, laws.markEdges and laws.heldEdges.
-/
import Derived.Test.YtkakiollhhmmaaaIntKit
import Derived.Test.YtkakiollhhmmaaaBlkKit
import Derived.Test.YtkakiollhhmmaaaMarkInts
namespace Go.Proofs.Ytkakiollhhmmaaa
open Go.RowKit
set_option linter.unusedVariables false
set_option maxRecDepth 20000

/-- Edges, as a value. -/
abbrev edgV (a1 : Option Addr) (n1 c1 : Nat) (a2 : Option Addr) (n2 c2 : Nat) (c : Int) : Value := .agg #[.slice a1 n1 c1, .slice a2 n2 c2, .int .i64 c]

set_option maxHeartbeats 800000 in
theorem szEdges_any (a1 a2 : Option Addr) (n1 n2 c1 c2 : Nat) (c L : Int) (w : World) (h1 : n1 ≤ maxLen) (h2 : n2 ≤ maxLen) (l0 : 0 ≤ L) (l1 : L ≤ 1048576) :
    Calls Try.prog 17 #[edgV a1 n1 c1 a2 n2 c2 c, .int .i64 L] w fun e w' => ∃ r : Int, e = .returned (.int .i64 r) ∧ (r < 0 ∨ (0 ≤ r ∧ (n1 : Int) ≤ 1048576 ∧ (n2 : Int) ≤ 1048576)) ∧ Below w.heap.size w w' := by
  have hbA := (Below.refl w.heap.size w).alloc (Nat.le_refl _) (.cells #[.slice a1 n1 c1, .slice a2 n2 c2, .int .i64 c] 36)
  go_enter Try.func17, Try.ntmps17
  go_wp2_with fail
  refine (szIntS_any _ _ _ _ _ h1 l0 l1).mono ?_
  rintro e w1 ⟨rfl | ⟨r, rfl, r0, r1, hn1⟩, hw⟩
  · subst w1
    go_wp2
    go_ret
    exact ⟨_, rfl, .inl (by decide), hbA⟩
  · subst w1
    go_wp2_with fail
    refine (szIntS_any _ _ _ _ _ h2 r0 r1).mono ?_
    rintro e w1 ⟨rfl | ⟨q, rfl, q0, q1, hn2⟩, hw⟩
    · subst w1
      go_wp2
      go_ret
      exact ⟨_, rfl, .inl (by decide), hbA⟩
    · subst w1
      go_wp2
      go_ret
      exact ⟨_, rfl, .inr ⟨q0, hn1, hn2⟩, hbA⟩

set_option maxHeartbeats 800000 in
theorem toEdges_any (a1 a2 : Option Addr) (c1 c2 : Nat) (xs ys : List Int) (c : Int) (w : World) (h1 : Ints w a1 xs) (h2 : Ints w a2 ys) (hl1 : xs.length ≤ 1048576) (hl2 : ys.length ≤ 1048576) :
    Calls Try.prog 18 #[edgV a1 xs.length c1 a2 ys.length c2 c] w fun e w' => ∃ a3 a4 c3 c4, e = .returned (edgV a3 xs.length c3 a4 ys.length c4 c) ∧ Ints w' a3 xs ∧ Ints w' a4 ys ∧ (∀ p, a3 = some p → w.heap.size ≤ p.block) ∧ (∀ p, a4 = some p → w.heap.size ≤ p.block) ∧ Below w.heap.size w w' := by
  have H1 : Hid (Ints w a1 xs) := h1
  have H2 : Hid (Ints w a2 ys) := h2
  clear h1 h2
  go_enter Try.func18, Try.ntmps18
  go_wp2_with fail
  generalize hW : World.alloc (World.alloc (World.alloc w _) _) _ = W
  have hs : W.heap.size = w.heap.size + 3 := by rw [← hW]; simp
  have B0 : Blk W w.heap.size #[.slice a1 xs.length c1, .slice a2 ys.length c2, .int .i64 c] 36 := by rw [← hW]; exact ((Blk.new w _ _).alloc _).alloc _
  have B1 : Blk W (w.heap.size + 1) #[.slice none 0 0, .slice none 0 0, .int .i64 0] 26 := by rw [← hW]; exact (Blk.new' _ _ (by simp)).alloc _
  have B2 : Blk W (w.heap.size + 1 + 1) #[.slice none 0 0, .slice none 0 0, .int .i64 0] 26 := by rw [← hW]; exact Blk.new' _ _ (by simp)
  have hb0 : Below w.heap.size w W := by rw [← hW]; exact (((Below.refl _ _).alloc (Nat.le_refl _) _).alloc (by simp) _).alloc (by simp; omega) _
  clear hW
  refine (toIntS_any _ _ _ W (H1.out.below hb0 (Nat.le_refl _)) hl1).mono ?_
  rintro e w1 ⟨v1, rfl, ho1, hb1⟩
  obtain ⟨a3, c3, rfl, i3, j3⟩ := ints_of_owns ho1
  have HI3 : Hid (Ints w1 a3 xs ∧ ∀ p, a3 = some p → w.heap.size + 3 ≤ p.block) := ⟨i3, fun p hp => by have := j3 p hp; omega⟩
  clear ho1 i3 j3
  have C0 := B0.below hb1 (by omega)
  have C1 := B1.below hb1 (by omega)
  have C2 := B2.below hb1 (by omega)
  have hb1' := hb0.trans (hb1.mono (by omega))
  have hs1 : w.heap.size + 3 ≤ w1.heap.size := by have := hb1.size; omega
  clear B0 B1 B2 hb0 hb1 hs
  obtain ⟨⟨x0, x1, x2⟩, _⟩ := C0.three
  obtain ⟨⟨y0, y1, y2⟩, f0, f1, f2⟩ := C2.three
  have D0 : Blk (w1.setCell ⟨w.heap.size + 1 + 1, 0, none⟩ (.slice a3 xs.length c3)) w.heap.size _ _ := C0.other _ _ (by simp; omega)
  have D1 : Blk (w1.setCell ⟨w.heap.size + 1 + 1, 0, none⟩ (.slice a3 xs.length c3)) (w.heap.size + 1) _ _ := C1.other _ _ (by simp)
  have D2 : Blk (w1.setCell ⟨w.heap.size + 1 + 1, 0, none⟩ (.slice a3 xs.length c3)) (w.heap.size + 1 + 1) _ _ := C2.set 0 _ (by simp)
  have hb2 : Below w.heap.size w (w1.setCell ⟨w.heap.size + 1 + 1, 0, none⟩ (.slice a3 xs.length c3)) := hb1'.setCell (by simp; omega) _
  clear C0 C1 C2
  go_wp2_with fail
  have HJ3 : Hid (Ints (w1.setCell ⟨w.heap.size + 1 + 1, 0, none⟩ (.slice a3 xs.length c3)) a3 xs) := HI3.out.1.set _ _ (fun p hp => by have := HI3.out.2 p hp; simp; omega)
  have hs2 : w.heap.size + 3 ≤ (w1.setCell ⟨w.heap.size + 1 + 1, 0, none⟩ (.slice a3 xs.length c3)).heap.size := by simpa using hs1
  clear x0 x1 x2 y0 y1 y2 f0 f1 f2 hb1' hs1
  generalize w1.setCell _ _ = W2 at *
  refine (toIntS_any _ _ _ W2 (H2.out.below hb2 (Nat.le_refl _)) hl2).mono ?_
  rintro e w2 ⟨v2, rfl, ho2, hb3⟩
  obtain ⟨a4, c4, rfl, i4, j4⟩ := ints_of_owns ho2
  have HI4 : Hid ((Ints w2 a4 ys ∧ ∀ p, a4 = some p → w.heap.size + 3 ≤ p.block) ∧ (Ints w2 a3 xs ∧ ∀ p, a3 = some p → w.heap.size + 3 ≤ p.block)) := ⟨⟨i4, fun p hp => by have := j4 p hp; omega⟩, HJ3.out.below hb3 (Nat.le_refl _), HI3.out.2⟩
  clear ho2 i4 j4 HJ3 HI3
  have C0 := D0.below hb3 (by omega)
  have C1 := D1.below hb3 (by omega)
  have C2 := D2.below hb3 (by omega)
  have hb4 := hb2.trans (hb3.mono (by omega))
  have hs3 : w.heap.size + 3 ≤ w2.heap.size := by have := hb3.size; omega
  clear D0 D1 D2 hb2 hb3 hs2
  obtain ⟨⟨z0, z1, z2⟩, _⟩ := C0.three
  obtain ⟨⟨x0, x1, x2⟩, e0, e1, e2⟩ := C1.three
  obtain ⟨⟨y0, y1, y2⟩, f0, f1, f2⟩ := C2.three
  have F1 : Blk (((((w2.setCell ⟨w.heap.size + 1 + 1, 1, none⟩ (.slice a4 ys.length c4)).setCell ⟨w.heap.size + 1 + 1, 2, none⟩ (.int .i64 c)).setCell ⟨w.heap.size + 1, 0, none⟩ (.slice a3 xs.length c3)).setCell ⟨w.heap.size + 1, 1, none⟩ (.slice a4 ys.length c4)).setCell ⟨w.heap.size + 1, 2, none⟩ (.int .i64 c)) (w.heap.size + 1) #[.slice a3 xs.length c3, .slice a4 ys.length c4, .int .i64 c] 26 :=
    ((((C1.other ⟨w.heap.size + 1 + 1, 1, none⟩ (.slice a4 ys.length c4) (by simp)).other ⟨w.heap.size + 1 + 1, 2, none⟩ (.int .i64 c) (by simp)).set 0 (.slice a3 xs.length c3) (by simp)).set 1 (.slice a4 ys.length c4) (by simp)).set 2 (.int .i64 c) (by simp)
  have HF1 : Hid (Blk _ _ _ _) := F1
  clear C0 C1 C2 F1
  go_wp2
  (try simp only [Exit.inBlock, Exit.then])
  refine bodyPost_ret (results_cell_row rfl _ _ (w.heap.size + 1) 26 _ (0, 0) _ rfl HF1.out Try.underlying26 rfl (by kernel_rfl)) rfl ?_
  refine ⟨a3, a4, c3, c4, rfl, ?_, ?_, fun p hp => by have := HI4.out.2.2 p hp; omega, fun p hp => by have := HI4.out.1.2 p hp; omega, ?_⟩
  · have h := HI4.out.2.2
    refine ((((HI4.out.2.1.set _ _ ?_).set _ _ ?_).set _ _ ?_).set _ _ ?_).set _ _ ?_
    all_goals exact fun p hp => by have := h p hp; simp; omega
  · have h := HI4.out.1.2
    refine ((((HI4.out.1.1.set _ _ ?_).set _ _ ?_).set _ _ ?_).set _ _ ?_).set _ _ ?_
    all_goals exact fun p hp => by have := h p hp; simp; omega
  · go_grown

set_option maxHeartbeats 800000 in
theorem eqEdges_any (a1 a2 a3 a4 : Option Addr) (c1 c2 c3 c4 : Nat) (xs ys : List Int) (c : Int) (w : World) (h1 : Ints w a1 xs) (h2 : Ints w a2 ys) (h3 : Ints w a3 xs) (h4 : Ints w a4 ys) (hl1 : xs.length ≤ 1048576) (hl2 : ys.length ≤ 1048576) :
    Calls Try.prog 19 #[edgV a1 xs.length c1 a2 ys.length c2 c, edgV a3 xs.length c3 a4 ys.length c4 c] w fun e w' => e = .returned (.bool true) ∧ Below w.heap.size w w' := by
  have H1 : Hid (Ints w a1 xs ∧ Ints w a3 xs) := ⟨h1, h3⟩
  have H2 : Hid (Ints w a2 ys ∧ Ints w a4 ys) := ⟨h2, h4⟩
  clear h1 h2 h3 h4
  go_enter Try.func19, Try.ntmps19
  go_wp2_with fail
  generalize hW : World.alloc (World.alloc w _) _ = W
  have hs : W.heap.size = w.heap.size + 2 := by rw [← hW]; simp
  have B0 : Blk W w.heap.size #[.slice a1 xs.length c1, .slice a2 ys.length c2, .int .i64 c] 26 := by rw [← hW]; exact (Blk.new w _ _).alloc _
  have B1 : Blk W (w.heap.size + 1) #[.slice a3 xs.length c3, .slice a4 ys.length c4, .int .i64 c] 26 := by rw [← hW]; exact Blk.new' _ _ (by simp)
  have hb0 : Below w.heap.size w W := by rw [← hW]; exact ((Below.refl _ _).alloc (Nat.le_refl _) _).alloc (by simp) _
  clear hW
  refine (eqIntS_any _ _ _ _ _ W (H1.out.1.below hb0 (Nat.le_refl _)) (H1.out.2.below hb0 (Nat.le_refl _)) (by omega)).mono ?_
  rintro e w1 ⟨rfl, hb1⟩
  have C0 := B0.below hb1 (by omega)
  have C1 := B1.below hb1 (by omega)
  obtain ⟨⟨x0, x1, x2⟩, _⟩ := C0.three
  obtain ⟨⟨y0, y1, y2⟩, _⟩ := C1.three
  have hb2 := hb0.trans (hb1.mono (by omega))
  have hs2 : w.heap.size + 2 ≤ w1.heap.size := by have := hb1.size; omega
  clear B0 B1 hb0 hb1
  go_wp2_with fail
  refine (eqIntS_any _ _ _ _ _ w1 (H2.out.1.below hb2 (Nat.le_refl _)) (H2.out.2.below hb2 (Nat.le_refl _)) (by omega)).mono ?_
  rintro e w2 ⟨rfl, hb3⟩
  have hb4 := hb2.trans (hb3.mono hb2.size)
  obtain ⟨⟨x0, x1, x2⟩, _⟩ := (C0.below hb3 (by omega)).three
  obtain ⟨⟨y0, y1, y2⟩, _⟩ := (C1.below hb3 (by omega)).three
  clear C0 C1 hb3 hb2
  go_wp2
  go_ret
  exact ⟨rfl, hb4⟩
end Go.Proofs.Ytkakiollhhmmaaa
