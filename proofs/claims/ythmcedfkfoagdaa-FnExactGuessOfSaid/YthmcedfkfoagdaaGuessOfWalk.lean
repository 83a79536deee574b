/-
  The walk of laws.FnExactGuessOf.
-/
import Derived.Test.YthmcedfkfoagdaaGuessOfKit
import Derived.Test.YthmcedfkfoagdaaGuessOfSpec
import Derived.Test.YthmcedfkfoagdaaGuessLawKit
namespace Go.Proofs.Ythmcedfkfoagdaa
open Go.RowKit
set_option linter.unusedVariables false
set_option maxRecDepth 20000

theorem own_frame {w w' : World} {B e s n : Nat} {v : Value} {xs : List Value} (h : w.ownsRow B e s v n xs) (hf : ∀ k, v.ownBlock = some k → w'.heap[k]? = w.heap[k]?) : w'.ownsRow B e s v n xs := by
  refine ⟨h.1, ?_⟩
  rcases h.2 with hn | ⟨g, cap, cur, rfl, hb, hg, rest⟩
  · exact .inl hn
  · exact .inr ⟨g, cap, cur, rfl, hb, by rw [hf g rfl]; exact hg, rest⟩

set_option maxHeartbeats 3200000 in
theorem fnExactGuessOf_walk (M : Int) (a1 a2 : Option Addr) (xs ys : List Int) (c1 c2 : Nat) (c : Int) (w : World) (h1 : Ints w a1 xs) (h2 : Ints w a2 ys) (m1 : xs.length ≤ maxLen) (m2 : ys.length ≤ maxLen) :
    Calls Try.prog 7 #[.int .i64 M, edgV a1 xs.length c1 a2 ys.length c2 c] w fun e w' => e = .returned (.bool true) ∧ Below w.heap.size w w' := by
  have H : Hid (∀ w', Below w.heap.size w w' → Ints w' a1 xs ∧ Ints w' a2 ys) := fun w' hb => ⟨h1.below hb (Nat.le_refl _), h2.below hb (Nat.le_refl _)⟩
  have CS : Hid (∀ a3 a4 c3 c4 w', Ints w' a3 xs → Ints w' a4 ys → Calls Try.prog 30 #[.int .i64 M, edgV a3 xs.length c3 a4 ys.length c4 c] w' fun e w'' => (∃ v, e = .returned v ∧ w''.ownsRow w'.heap.size 3 1 v (gueL M xs ys c).length ((gueL M xs ys c).map (Value.int .i64))) ∧ Below w'.heap.size w' w'') := fun a3 a4 c3 c4 w' p q => specGuessOf M a3 a4 c3 c4 xs ys c w' p q m1 m2
  have CI : Hid (∀ a3 a4 c3 c4 w', Ints w' a3 xs → Ints w' a4 ys → Calls Try.prog 13 #[.int .i64 M, edgV a3 xs.length c3 a4 ys.length c4 c] w' fun e w'' => (∃ v, e = .returned v ∧ w''.ownsRow w'.heap.size 3 1 v (gueL M xs ys c).length ((gueL M xs ys c).map (Value.int .i64))) ∧ Below w'.heap.size w' w'') := fun a3 a4 c3 c4 w' p q => implGuessOf M a3 a4 c3 c4 xs ys c w' p q m1 m2
  have hz := gueL_len M xs ys c
  generalize gueL M xs ys c = Z at *
  clear h1 h2
  go_enter Try.func7, Try.ntmps7
  go_wp2_with fail
  generalize hW : World.alloc w _ = V
  have A0 : Blk V w.heap.size #[.slice a1 xs.length c1, .slice a2 ys.length c2, .int .i64 c] 45 := by rw [← hW]; exact Blk.new w _ _
  have hb0 : Below w.heap.size w V := by rw [← hW]; exact (Below.refl _ _).alloc (Nat.le_refl _) _
  clear hW
  have PB : Hid (∀ w', Below V.heap.size V w' → (w'.cell? ⟨w.heap.size, 0, none⟩ = some (.slice a1 xs.length c1) ∧ w'.cell? ⟨w.heap.size, 1, none⟩ = some (.slice a2 ys.length c2) ∧ w'.cell? ⟨w.heap.size, 2, none⟩ = some (.int .i64 c)) ∧ Ints w' a1 xs ∧ Ints w' a2 ys) := fun w' h => ⟨(A0.below h A0.lt).three.1, H.out w' (hb0.trans (h.mono hb0.size))⟩
  have hlt0 : w.heap.size < V.heap.size := A0.lt
  clear A0 H
  refine (szEdges_any _ _ _ _ _ _ _ _ V m1 m2 (by decide) (by decide)).mono ?_
  rintro e w1 ⟨r, rfl, hr | ⟨hr, n1, n2⟩, hc⟩
  · have hb1 := hb0.trans (hc.mono hb0.size)
    clear hc
    go_wp2
    go_ret
    exact ⟨rfl, hb1⟩
  have k1 : xs.length ≤ 1048576 := by omega
  have k2 : ys.length ≤ 1048576 := by omega
  have t1 : Below V.heap.size V w1 := hc
  clear hc
  obtain ⟨⟨x0, x1, x2⟩, i1, i2⟩ := PB.out w1 t1
  go_wp2_with fail
  refine (toEdges_any a1 a2 c1 c2 xs ys c w1 i1 i2 k1 k2).mono ?_
  rintro e w2 ⟨a3, a4, c3, c4, rfl, i3, i4, _, _, hc⟩
  have t2 := t1.trans (hc.mono t1.size)
  clear hc t1 i1 i2 x0 x1 x2
  go_wp2_with fail
  refine (CS.out a3 a4 c3 c4 w2 i3 i4).mono ?_
  rintro e w3 ⟨⟨v1, rfl, o1⟩, hc⟩
  obtain ⟨p1, q1, rfl⟩ := own_slice o1
  have t3 := t2.trans (hc.mono t2.size)
  have P1 : Hid (∀ w', Below w3.heap.size w3 w' → Ints w' p1 Z) := fun w' h => (owned_at o1).below h (Nat.le_refl _)
  clear hc t2 i3 i4 o1
  obtain ⟨⟨x0, x1, x2⟩, i1, i2⟩ := PB.out w3 t3
  go_wp2_with fail
  refine (toEdges_own a1 a2 c1 c2 xs ys c w3 i1 i2 k1 k2).mono ?_
  rintro e w4 ⟨a5, a6, c5, c6, rfl, R4, hc⟩
  have t4 := t3.trans (hc.mono t3.size)
  have s4 : Below w3.heap.size w3 w4 := hc
  clear hc i1 i2 x0 x1 x2
  have X4 := Blk.new w4 #[.slice a5 xs.length c5, .slice a6 ys.length c6, .int .i64 c] 26
  have t5 := t4.alloc t4.size (.cells #[.slice a5 xs.length c5, .slice a6 ys.length c6, .int .i64 c] 26)
  have s5 := s4.alloc s4.size (.cells #[.slice a5 xs.length c5, .slice a6 ys.length c6, .int .i64 c] 26)
  have R5 := R4.below ((Below.refl w4.heap.size w4).alloc (Nat.le_refl _) (.cells #[.slice a5 xs.length c5, .slice a6 ys.length c6, .int .i64 c] 26))
  have LT : Hid ((∀ k, (Value.slice a5 xs.length c5).ownBlock = some k → k < w4.heap.size) ∧ (∀ k, (Value.slice a6 ys.length c6).ownBlock = some k → k < w4.heap.size)) := ⟨fun k h => (R4.one.lt k h).2, fun k h => (R4.two.lt k h).2⟩
  clear t4 s4 R4
  go_wp2_with fail
  generalize w4.alloc _ = W4 at *
  generalize hg4 : w4.heap.size = g4 at *
  have hgW : g4 < W4.heap.size := X4.lt
  have t5s := t5.size
  have s5s := s5.size
  refine (CI.out a5 a6 c5 c6 W4 (owned_at R5.one) (owned_at R5.two)).mono ?_
  rintro e w5 ⟨⟨v2, rfl, o2⟩, hc⟩
  obtain ⟨p2, q2, rfl⟩ := own_slice o2
  have t6 := t5.trans (hc.mono t5.size)
  have s6 := s5.trans (hc.mono s5.size)
  have u6 : Below W4.heap.size W4 w5 := hc
  clear hc
  go_wp2_with fail
  refine (eqIntS_any p2 p1 q2 q1 Z w5 (owned_at o2) (P1.out w5 s6) (by omega)).mono ?_
  rintro e w6 ⟨rfl, hc⟩
  have t7 := t6.trans (hc.mono t6.size)
  have s7 := s6.trans (hc.mono s6.size)
  have u7 := u6.trans (hc.mono u6.size)
  have o3 := owned_below o2 hc
  clear hc t6 s6 u6 o2
  have BK : Hid (∀ w', Below w6.heap.size w6 w' → (w'.cell? ⟨g4, 0, none⟩ = some (.slice a5 xs.length c5) ∧ w'.cell? ⟨g4, 1, none⟩ = some (.slice a6 ys.length c6) ∧ w'.cell? ⟨g4, 2, none⟩ = some (.int .i64 c)) ∧
      (w'.cell? ⟨w.heap.size, 0, none⟩ = some (.slice a1 xs.length c1) ∧ w'.cell? ⟨w.heap.size, 1, none⟩ = some (.slice a2 ys.length c2) ∧ w'.cell? ⟨w.heap.size, 2, none⟩ = some (.int .i64 c))) :=
    fun w' h => ⟨(X4.below (u7.trans (h.mono u7.size)) X4.lt).three.1, (PB.out w' (t7.trans (h.mono t7.size))).1⟩
  have s0 := BK.out w6 (Below.refl _ _)
  obtain ⟨⟨x0, x1, x2⟩, y0, y1, y2⟩ := s0
  have e7 : w.heap.size < w6.heap.size := by have := t7.size; omega
  have e8 : g4 < w6.heap.size := by have := u7.size; omega
  go_wp2_with fail
  go_region_held3 (fun w' => (w'.cell? ⟨g4, 0, none⟩ = some (.slice a5 xs.length c5) ∧ w'.cell? ⟨g4, 1, none⟩ = some (.slice a6 ys.length c6) ∧ w'.cell? ⟨g4, 2, none⟩ = some (.int .i64 c)) ∧
      (w'.cell? ⟨w.heap.size, 0, none⟩ = some (.slice a1 xs.length c1) ∧ w'.cell? ⟨w.heap.size, 1, none⟩ = some (.slice a2 ys.length c2) ∧ w'.cell? ⟨w.heap.size, 2, none⟩ = some (.int .i64 c)))
    (first | go_keep | exact BK.out _ hc7 | exact BK.out _ (hc7.trans (hc8.mono hc7.size)))
    (first
      | (go_at_call 29; refine (toEdges_any _ _ _ _ _ _ _ _ (PB.out _ t7.drew).2.1 (PB.out _ t7.drew).2.2 k1 k2).mono ?_; rintro e w7 ⟨b5, b6, d5, d6, rfl, i5, i6, _, _, hr7⟩; have hc7 : Below w6.heap.size w6 w7 := (Below.refl w6.heap.size w6).drew.trans hr7; have HJ : Hid (Ints w7 b5 xs ∧ Ints w7 b6 ys) := ⟨i5, i6⟩; clear i5 i6 hr7)
      | (go_at_call 24; refine (eqEdges_any _ _ _ _ _ _ _ _ _ _ _ _ ((owned_at R5.one).below (u7.trans (hc7.mono u7.size)) (Nat.le_refl _)) ((owned_at R5.two).below (u7.trans (hc7.mono u7.size)) (Nat.le_refl _)) HJ.out.1 HJ.out.2 k1 k2).mono ?_; rintro e w8 ⟨rfl, hc8⟩))
  all_goals
    have hc78 := hc7.trans (hc8.mono hc7.size)
    have t8 := t7.trans (hc78.mono t7.size)
    have s8 := s7.trans (hc78.mono s7.size)
    have u8 := u7.trans (hc78.mono u7.size)
    have o4 := owned_below o3 hc78
    have R8 := R5.below u8
    obtain ⟨⟨z0, z1, z2⟩, _⟩ := BK.out w8 hc78
    clear hc7 hc8 hc78 t7 s7 u7 o3 x0 x1 x2 y0 y1 y2 HJ BK
    go_wp2_with fail
    refine (markEdges_long a5 a6 c5 c6 w3.heap.size w3.heap.size xs ys c w8 R8 s8.size k1 k2).mono ?_
    rintro e w9 ⟨rfl, hm, hfr⟩
    have t9 : Below V.heap.size V w9 := t8.trans (hm.mono t3.size)
    have s9 : Below w3.heap.size w3 w9 := s8.trans hm
    have o5 : w9.ownsRow W4.heap.size 3 1 (.slice p2 Z.length q2) Z.length (Z.map (Value.int .i64)) := own_frame o4 (fun k hk => by
      obtain ⟨l1, l2⟩ := o4.lt k hk
      exact hfr k l2 (fun e => by have := LT.out.1 _ e; omega) (fun e => by have := LT.out.2 _ e; omega))
    have hW9 : W4.heap.size ≤ w9.heap.size := Nat.le_trans u8.size hm.size
    have hnn : ¬ 1 + (xs.length : Int) + (ys.length : Int) < 0 := by omega
    clear hm hfr t8 s8 u8 o4 R8 z0 z1 z2 R5 X4 LT t5 s5
    go_wp2_with fail
    refine (eqIntS_any p2 p1 q2 q1 Z w9 (owned_at o5) (P1.out w9 s9) (by omega)).mono ?_
    rintro e w10 ⟨rfl, hc⟩
    have t10 := t9.trans (hc.mono t9.size)
    have s10 := s9.trans (hc.mono s9.size)
    have o6 := owned_below o5 hc
    have hW10 := Nat.le_trans hW9 hc.size
    clear hc t9 s9 o5
    go_wp2_with fail
    refine (markIntS_any p2 q2 W4.heap.size Z 1 w10 o6 (by omega) (by decide) (by decide)).mono ?_
    rintro e w11 ⟨rfl, o7, hg7⟩
    have hgb : Below W4.heap.size w10 w11 := (Below.refl W4.heap.size w10).grown hg7 hW10 (fun k hk => (o6.lt k hk).1)
    have hVW : V.heap.size ≤ W4.heap.size := t5s
    have h3W : w3.heap.size ≤ W4.heap.size := s5s
    have t11 := t10.trans (hgb.mono hVW)
    have s11 := s10.trans (hgb.mono h3W)
    have MK : Hid (∀ w', Below w11.heap.size w11 w' → Ints w' p2 (marksI 1 Z.length)) := fun w' h => by
      have : Ints w11 p2 (marksI 1 Z.length) := owned_at (xs := marksI 1 Z.length) (by rw [marksI_length]; exact o7)
      exact this.below h (Nat.le_refl _)
    clear hgb hg7 o6 o7 t10 s10
    go_wp2_with fail
    refine (heldIntS_any p2 Z.length q2 1 w11 (MK.out w11 (Below.refl _ _)) (by omega) (by decide) (by decide)).mono ?_
    rintro e w12 ⟨rfl, hw⟩
    subst w12
    have hn1 : ¬ 1 + (Z.length : Int) < 0 := by omega
    have hn2 : (1 + (Z.length : Int) != 1 + (Z.length : Int)) = false := by simp
    obtain ⟨⟨x0, x1, x2⟩, i1, i2⟩ := PB.out w11 t11
    go_wp2_with fail
    refine (toEdges_any a1 a2 c1 c2 xs ys c w11 i1 i2 k1 k2).mono ?_
    rintro e w13 ⟨a7, a8, c7, c8, rfl, i7, i8, _, _, hc⟩
    have t13 := t11.trans (hc.mono t11.size)
    have s13 := s11.trans (hc.mono s11.size)
    have b13 : Below w11.heap.size w11 w13 := hc
    clear hc t11 s11 i1 i2 x0 x1 x2
    go_wp2_with fail
    refine (CI.out a7 a8 c7 c8 w13 i7 i8).mono ?_
    rintro e w14 ⟨⟨v3, rfl, o8⟩, hc⟩
    obtain ⟨p3, q3, rfl⟩ := own_slice o8
    have t14 := t13.trans (hc.mono t13.size)
    have s14 := s13.trans (hc.mono s13.size)
    have b14 := b13.trans (hc.mono b13.size)
    clear hc t13 s13 b13 i7 i8
    go_wp2_with fail
    refine (eqIntS_any p3 p1 q3 q1 Z w14 (owned_at o8) (P1.out w14 s14) (by omega)).mono ?_
    rintro e w15 ⟨rfl, hc⟩
    have t15 := t14.trans (hc.mono t14.size)
    have b15 := b14.trans (hc.mono b14.size)
    clear hc t14 s14 b14 o8
    go_wp2_with fail
    refine (heldIntS_any p2 Z.length q2 1 w15 (MK.out w15 b15) (by omega) (by decide) (by decide)).mono ?_
    rintro e w16 ⟨rfl, hw⟩
    subst w16
    have hfin := hb0.trans (t15.mono hb0.size)
    go_wp2
    go_ret
    exact ⟨rfl, hfin⟩
end Go.Proofs.Ythmcedfkfoagdaa
