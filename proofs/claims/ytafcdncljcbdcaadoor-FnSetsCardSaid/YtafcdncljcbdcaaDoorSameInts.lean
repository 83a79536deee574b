/-
  The walks of laws.sameInts and laws.sameSeq.
-/
import Derived.Test.YtafcdncljcbdcaaDoorSeqKit
namespace Go.Proofs.YtafcdncljcbdcaaDoor
open Go.RowKit
set_option linter.unusedVariables false
set_option maxRecDepth 20000
attribute [local go_sem ↓] Go.wp_at_zero Go.wp_at_succ

set_option maxHeartbeats 800000 in
theorem sameInts_any (a1 a2 : Option Addr) (c1 c2 : Nat) (xs : List Int) (w : World) (h1 : Ints w a1 xs) (h2 : Ints w a2 xs) (hx : xs.length ≤ 2000000) :
    Calls Tryd.prog 43 #[.slice a1 xs.length c1, .slice a2 xs.length c2] w fun e w' => e = .returned (.bool true) ∧ Below w.heap.size w w' := by
  rcases h1 with rfl | ⟨b1, o1, rfl, hg1, hc1⟩
  · go_enter Tryd.func43, Tryd.ntmps43
    go_wp2
    refine wp_loop_rounds 1 ?_
    rw [rounds_succ]
    go_wp2
    go_ret
    exact ⟨rfl, Below.refl _ _⟩
  · rcases h2 with rfl | ⟨b2, o2, rfl, hg2, hc2⟩
    · go_enter Tryd.func43, Tryd.ntmps43
      go_wp2
      refine wp_loop_rounds 1 ?_
      rw [rounds_succ]
      go_wp2
      go_ret
      exact ⟨rfl, Below.refl _ _⟩
    · have H1 : Hid (∀ i, i < xs.length → w.cell? ⟨b1, o1 + i, none⟩ = some (.int .i64 (xs.getD i 0))) := hc1
      have H2 : Hid (∀ i, i < xs.length → w.cell? ⟨b2, o2 + i, none⟩ = some (.int .i64 (xs.getD i 0))) := hc2
      clear hc1 hc2
      go_enter Tryd.func43, Tryd.ntmps43
      go_wp2
      go_loopw [5] (fun i wr => ∃ k : Nat, k ≤ xs.length ∧ i = .int .i64 k ∧ Below w.heap.size w wr) (fun i _ => xs.length - (intOf i).toNat)
      case atStart => exact ⟨0, Nat.zero_le _, rfl, Below.refl _ _⟩
      case round =>
        obtain ⟨k, hk, rfl, hb⟩ := hrel
        by_cases hlt : k < xs.length
        · obtain ⟨x, hx⟩ : ∃ x, x = xs.getD k 0 := ⟨_, rfl⟩
          have d1 : wr.cell? ⟨b1, o1 + k, none⟩ = some (.int .i64 x) := by rw [hx]; exact (hb.cell (p := ⟨b1, o1 + k, none⟩) hg1).trans (H1.out k hlt)
          have d2 : wr.cell? ⟨b2, o2 + k, none⟩ = some (.int .i64 x) := by rw [hx]; exact (hb.cell (p := ⟨b2, o2 + k, none⟩) hg2).trans (H2.out k hlt)
          clear hx
          have l0 : (0 : Int) ≤ (k : Int) := by omega
          have l1 : (k : Int) < (xs.length : Int) := by omega
          go_wp2_with fail
          go_quiet (fail)
          go_wp2
          go_roundw
          case rel => exact ⟨k + 1, by omega, by go_num, below_drewN hb _⟩
          case measure => simp [intOf]; omega
        · go_wp2
          go_ret
          exact ⟨rfl, hb⟩

set_option maxHeartbeats 1600000 in
theorem sameSeq_any (l b : Int) (a1 a2 a3 a4 : Option Addr) (c1 c2 c3 c4 : Nat) (xs ys : List Int) (w : World) (h1 : Ints w a1 xs) (h2 : Ints w a2 ys) (h3 : Ints w a3 xs) (h4 : Ints w a4 ys) (hl1 : xs.length ≤ 1048576) (hl2 : ys.length ≤ 1048576) :
    Calls Tryd.prog 14 #[.agg #[.int .i64 l, .int .i64 b, .slice a1 xs.length c1, .slice a2 ys.length c2], .agg #[.int .i64 l, .int .i64 b, .slice a3 xs.length c3, .slice a4 ys.length c4]] w fun e w' => e = .returned (.bool true) ∧ Below w.heap.size w w' := by
  have H1 : Hid (Ints w a1 xs ∧ Ints w a3 xs) := ⟨h1, h3⟩
  have H2 : Hid (Ints w a2 ys ∧ Ints w a4 ys) := ⟨h2, h4⟩
  clear h1 h2 h3 h4
  go_enter Tryd.func14, Tryd.ntmps14
  go_wp2_with fail
  generalize hW : World.alloc (World.alloc w _) _ = W
  have hs : W.heap.size = w.heap.size + 2 := by rw [← hW]; simp
  have B0 : Blk W w.heap.size #[.int .i64 l, .int .i64 b, .slice a1 xs.length c1, .slice a2 ys.length c2] 26 := by rw [← hW]; exact (Blk.new w _ _).alloc _
  have B1 : Blk W (w.heap.size + 1) #[.int .i64 l, .int .i64 b, .slice a3 xs.length c3, .slice a4 ys.length c4] 26 := by rw [← hW]; exact Blk.new' _ _ (by simp)
  have hb0 : Below w.heap.size w W := by rw [← hW]; exact ((Below.refl _ _).alloc (Nat.le_refl _) _).alloc (by simp) _
  clear hW
  refine (sameInts_any _ _ _ _ _ W (H1.out.1.below hb0 (Nat.le_refl _)) (H1.out.2.below hb0 (Nat.le_refl _)) (by omega)).mono ?_
  rintro e w1 ⟨rfl, hb1⟩
  obtain ⟨⟨x0, x1, x2, x3⟩, _⟩ := (B0.below hb1 (by omega)).four
  obtain ⟨⟨y0, y1, y2, y3⟩, _⟩ := (B1.below hb1 (by omega)).four
  have hb2 := hb0.trans (hb1.mono (by omega))
  clear B0 B1 hb0 hb1
  go_wp2_with fail
  refine (sameInts_any _ _ _ _ _ w1 (H2.out.1.below hb2 (Nat.le_refl _)) (H2.out.2.below hb2 (Nat.le_refl _)) (by omega)).mono ?_
  rintro e w2 ⟨rfl, hb3⟩
  go_wp2
  go_ret
  exact ⟨rfl, hb2.trans (hb3.mono hb2.size)⟩
end Go.Proofs.YtafcdncljcbdcaaDoor
