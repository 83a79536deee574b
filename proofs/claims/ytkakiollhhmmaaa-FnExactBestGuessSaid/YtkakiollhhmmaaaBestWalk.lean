/-
  The walk of laws.FnExactBestGuess.
-/
import Derived.Test.YtkakiollhhmmaaaBestImpl
import Derived.Test.YtkakiollhhmmaaaBestSpec
import Derived.Test.YtkakiollhhmmaaaGapOfWalk
namespace Go.Proofs.Ytkakiollhhmmaaa
open Go.RowKit
set_option linter.unusedVariables false
set_option maxRecDepth 20000

set_option maxHeartbeats 3200000 in
theorem fnExactBestGuess_walk (a0 : Option Addr) (ws : List Int) (c0 : Nat) (a1 a2 : Option Addr) (xs ys : List Int) (c1 c2 : Nat) (c : Int) (w : World) (h0 : Ints w a0 ws) (m0 : ws.length ≤ maxLen) (h1 : Ints w a1 xs) (h2 : Ints w a2 ys) (m1 : xs.length ≤ maxLen) (m2 : ys.length ≤ maxLen) :
    Calls Try.prog 5 #[.slice a0 ws.length c0, edgV a1 xs.length c1 a2 ys.length c2 c] w fun e w' => e = .returned (.bool true) ∧ Below w.heap.size w w' := by
  have H : Hid (∀ w', Below w.heap.size w w' → Ints w' a0 ws ∧ Ints w' a1 xs ∧ Ints w' a2 ys) := fun w' hb => ⟨h0.below hb (Nat.le_refl _), h1.below hb (Nat.le_refl _), h2.below hb (Nat.le_refl _)⟩
  have CS : Hid (∀ a0 a3 a4 d0 c3 c4 w', Ints w' a0 ws → Ints w' a3 xs → Ints w' a4 ys → Calls Try.prog 10 #[.slice a0 ws.length d0, edgV a3 xs.length c3 a4 ys.length c4 c] w' fun e w'' => e = .returned (.tuple #[.int .i64 (bestM ws xs ys c).1, .int .i64 (bestM ws xs ys c).2]) ∧ Below w'.heap.size w' w'') := fun a0 a3 a4 d0 c3 c4 w' o p q => specBestGuess a0 a3 a4 d0 c3 c4 ws xs ys c w' o p q m0 m1 m2
  have CI : Hid (∀ a0 a3 a4 d0 c3 c4 w', Ints w' a0 ws → Ints w' a3 xs → Ints w' a4 ys → Calls Try.prog 9 #[.slice a0 ws.length d0, edgV a3 xs.length c3 a4 ys.length c4 c] w' fun e w'' => e = .returned (.tuple #[.int .i64 (bestM ws xs ys c).1, .int .i64 (bestM ws xs ys c).2]) ∧ Below w'.heap.size w' w'') := fun a0 a3 a4 d0 c3 c4 w' o p q => implBestGuess a0 a3 a4 d0 c3 c4 ws xs ys c w' o p q m0 m1 m2
  generalize (bestM ws xs ys c).1 = r1 at *
  generalize (bestM ws xs ys c).2 = r2 at *
  have hr1 : (r1 != r1) = false := by simp
  have hr2 : (r2 != r2) = false := by simp
  have mm0 := m0
  unfold maxLen at mm0
  clear h0 h1 h2
  have A0 := Blk.new w #[.slice a1 xs.length c1, .slice a2 ys.length c2, .int .i64 c] 36
  have hb0 := (Below.refl w.heap.size w).alloc (Nat.le_refl _) (.cells #[.slice a1 xs.length c1, .slice a2 ys.length c2, .int .i64 c] 36)
  by_cases k0 : 1048576 < ws.length
  · go_enter Try.func5, Try.ntmps5
    go_wp2
    go_ret
    exact ⟨rfl, hb0⟩
  have j0 : ws.length ≤ 1048576 := by omega
  go_enter Try.func5, Try.ntmps5
  go_wp2_with fail
  generalize World.alloc w _ = V at *
  have PB : Hid (∀ w', Below V.heap.size V w' → (w'.cell? ⟨w.heap.size, 0, none⟩ = some (.slice a1 xs.length c1) ∧ w'.cell? ⟨w.heap.size, 1, none⟩ = some (.slice a2 ys.length c2) ∧ w'.cell? ⟨w.heap.size, 2, none⟩ = some (.int .i64 c)) ∧ Ints w' a0 ws ∧ Ints w' a1 xs ∧ Ints w' a2 ys) := fun w' h => ⟨(A0.below h A0.lt).three.1, H.out w' (hb0.trans (h.mono hb0.size))⟩
  have hlt0 : w.heap.size < V.heap.size := A0.lt
  clear A0 H
  refine (szEdges_any _ _ _ _ _ _ _ _ V m1 m2 (by decide) (by decide)).mono ?_
  rintro e w1 ⟨r, rfl, hr | ⟨hr, n1, n2⟩, hc⟩
  · have hb1 := hb0.trans (hc.mono hb0.size)
    clear hc
    go_wp2
    go_ret
    exact ⟨rfl, hb1⟩
  have k1 : xs.length ≤ 1048576 := by omega
  have k2 : ys.length ≤ 1048576 := by omega
  have t1 : Below V.heap.size V w1 := hc
  clear hc
  have K0 := (PB.out w1.drew t1.drew).1
  go_wp2_with fail
  go_region_held3 (fun w' => (w'.cell? ⟨w.heap.size, 0, none⟩ = some (.slice a1 xs.length c1) ∧ w'.cell? ⟨w.heap.size, 1, none⟩ = some (.slice a2 ys.length c2) ∧ w'.cell? ⟨w.heap.size, 2, none⟩ = some (.int .i64 c)))
    (first | (with_reducible exact K0) | (with_reducible exact K1) | (with_reducible exact K2) | (with_reducible exact K3))
    (first
      | (go_at_call 15; refine (toInts_exG _ _ ws _ (PB.out _ t1.drew).2.1 j0).mono ?_; rintro e v1 ⟨⟨p1, q1, rfl, i1⟩, hr⟩; have b1 : Below w1.heap.size w1 v1 := (Below.refl w1.heap.size w1).drew.trans hr; have z1 := t1.trans (b1.mono t1.size); have K1 := (PB.out v1 z1).1; have I1 : Hid (Ints v1 p1 ws) := i1; clear hr i1)
      | (go_at_call 18; refine (toEdges_any _ _ _ _ _ _ _ _ (PB.out v1 z1).2.2.1 (PB.out v1 z1).2.2.2 k1 k2).mono ?_; rintro e v2 ⟨b5, b6, d5, d6, rfl, i5, i6, _, _, hr⟩; have z2 := z1.trans (hr.mono z1.size); have K2 := (PB.out v2 z2).1; have I2 : Hid (Ints v2 p1 ws ∧ Ints v2 b5 xs ∧ Ints v2 b6 ys) := ⟨I1.out.below hr (Nat.le_refl _), i5, i6⟩; clear hr i5 i6)
      | (go_at_call 10; refine (CS.out _ _ _ _ _ _ _ I2.out.1 I2.out.2.1 I2.out.2.2).mono ?_; rintro e v3 ⟨rfl, hr⟩; have z3 := z2.trans (hr.mono z2.size); have K3 := (PB.out v3 z3).1; clear hr))
  have t3 : Below V.heap.size V v3 := z3
  clear K0 K1 K2 K3 z1 z2 z3 b1 I1 I2 t1
  go_wp2_with fail
  refine (toInts_exG _ _ ws v3 (PB.out v3 t3).2.1 j0).mono ?_
  rintro e w4 ⟨⟨p4, q4, rfl, i4⟩, hc⟩
  have t4 := t3.trans (hc.mono t3.size)
  have I4 : Hid (∀ w', Below w4.heap.size w4 w' → Ints w' p4 ws) := fun w' h => i4.below h (Nat.le_refl _)
  clear hc i4 t3
  obtain ⟨⟨x0, x1, x2⟩, i0, i1, i2⟩ := PB.out w4 t4
  go_wp2_with fail
  refine (toEdges_any a1 a2 c1 c2 xs ys c w4 i1 i2 k1 k2).mono ?_
  rintro e w5 ⟨a5, a6, c5, c6, rfl, i5, i6, _, _, hc⟩
  have t5 := t4.trans (hc.mono t4.size)
  have s5 : Below w4.heap.size w4 w5 := hc
  clear hc i0 i1 i2 x0 x1 x2
  have X5 := Blk.new w5 #[.slice a5 xs.length c5, .slice a6 ys.length c6, .int .i64 c] 26
  have b5 := (Below.refl w5.heap.size w5).alloc (Nat.le_refl _) (.cells #[.slice a5 xs.length c5, .slice a6 ys.length c6, .int .i64 c] 26)
  have t6 := t5.alloc t5.size (.cells #[.slice a5 xs.length c5, .slice a6 ys.length c6, .int .i64 c] 26)
  have s6 := s5.alloc s5.size (.cells #[.slice a5 xs.length c5, .slice a6 ys.length c6, .int .i64 c] 26)
  have I5 : Hid (Ints w5 a5 xs ∧ Ints w5 a6 ys) := ⟨i5, i6⟩
  clear i5 i6 t5 s5
  go_wp2_with fail
  generalize w5.alloc _ = W5 at *
  have I6 : Hid (∀ w', Below W5.heap.size W5 w' → Ints w' a5 xs ∧ Ints w' a6 ys) := fun w' h => by
    have hq := b5.trans (h.mono b5.size)
    exact ⟨I5.out.1.below hq (Nat.le_refl _), I5.out.2.below hq (Nat.le_refl _)⟩
  have e5 : w5.heap.size < W5.heap.size := X5.lt
  clear I5 b5
  refine (CI.out p4 a5 a6 q4 c5 c6 W5 (I4.out W5 s6) (I6.out W5 (Below.refl _ _)).1 (I6.out W5 (Below.refl _ _)).2).mono ?_
  rintro e w6 ⟨rfl, hc⟩
  have t7 := t6.trans (hc.mono t6.size)
  have s7 := s6.trans (hc.mono s6.size)
  have u7 : Below W5.heap.size W5 w6 := hc
  clear hc t6 s6
  go_wp2_with fail
  refine (toInts_exG _ _ ws w6 (PB.out w6 t7).2.1 j0).mono ?_
  rintro e w7 ⟨⟨p7, q7, rfl, i7⟩, hc⟩
  have t8 := t7.trans (hc.mono t7.size)
  have s8 := s7.trans (hc.mono s7.size)
  have u8 := u7.trans (hc.mono u7.size)
  clear hc t7 s7 u7
  go_wp2_with fail
  refine (eqIntS_any p4 p7 q4 q7 ws w7 (I4.out w7 s8) i7 (by omega)).mono ?_
  rintro e w8 ⟨rfl, hc⟩
  have t9 := t8.trans (hc.mono t8.size)
  have u9 := u8.trans (hc.mono u8.size)
  clear hc t8 s8 u8 i7
  have BK : Hid (∀ w', Below w8.heap.size w8 w' → (w'.cell? ⟨w5.heap.size, 0, none⟩ = some (.slice a5 xs.length c5) ∧ w'.cell? ⟨w5.heap.size, 1, none⟩ = some (.slice a6 ys.length c6) ∧ w'.cell? ⟨w5.heap.size, 2, none⟩ = some (.int .i64 c)) ∧
      (w'.cell? ⟨w.heap.size, 0, none⟩ = some (.slice a1 xs.length c1) ∧ w'.cell? ⟨w.heap.size, 1, none⟩ = some (.slice a2 ys.length c2) ∧ w'.cell? ⟨w.heap.size, 2, none⟩ = some (.int .i64 c))) :=
    fun w' h => ⟨(X5.below (u9.trans (h.mono u9.size)) X5.lt).three.1, (PB.out w' (t9.trans (h.mono t9.size))).1⟩
  have s0 := BK.out w8 (Below.refl _ _)
  obtain ⟨⟨x0, x1, x2⟩, y0, y1, y2⟩ := s0
  have e7 : w.heap.size < w8.heap.size := by have := t9.size; omega
  have e8 : w5.heap.size < w8.heap.size := by have := u9.size; omega
  clear X5
  go_wp2_with fail
  go_region_held3 (fun w' => (w'.cell? ⟨w5.heap.size, 0, none⟩ = some (.slice a5 xs.length c5) ∧ w'.cell? ⟨w5.heap.size, 1, none⟩ = some (.slice a6 ys.length c6) ∧ w'.cell? ⟨w5.heap.size, 2, none⟩ = some (.int .i64 c)) ∧
      (w'.cell? ⟨w.heap.size, 0, none⟩ = some (.slice a1 xs.length c1) ∧ w'.cell? ⟨w.heap.size, 1, none⟩ = some (.slice a2 ys.length c2) ∧ w'.cell? ⟨w.heap.size, 2, none⟩ = some (.int .i64 c)))
    (first | go_keep | exact BK.out _ hc7 | exact BK.out _ (hc7.trans (hc8.mono hc7.size)))
    (first
      | (go_at_call 18; refine (toEdges_any _ _ _ _ _ _ _ _ (PB.out _ t9.drew).2.2.1 (PB.out _ t9.drew).2.2.2 k1 k2).mono ?_; rintro e w9 ⟨b5, b6, d5, d6, rfl, i5, i6, _, _, hr7⟩; have hc7 : Below w8.heap.size w8 w9 := (Below.refl w8.heap.size w8).drew.trans hr7; have HJ : Hid (Ints w9 b5 xs ∧ Ints w9 b6 ys) := ⟨i5, i6⟩; clear i5 i6 hr7)
      | (go_at_call 19; refine (eqEdges_any _ _ _ _ _ _ _ _ _ _ _ _ (I6.out _ (u9.trans (hc7.mono u9.size))).1 (I6.out _ (u9.trans (hc7.mono u9.size))).2 HJ.out.1 HJ.out.2 k1 k2).mono ?_; rintro e w10 ⟨rfl, hc8⟩))
  all_goals
    have hfin : Below w.heap.size w w10 := hb0.trans ((t9.trans ((hc7.trans (hc8.mono hc7.size)).mono t9.size)).mono hb0.size)
    clear hc7 hc8
    go_wp2
    go_ret
    exact ⟨rfl, hfin⟩
end Go.Proofs.Ytkakiollhhmmaaa
