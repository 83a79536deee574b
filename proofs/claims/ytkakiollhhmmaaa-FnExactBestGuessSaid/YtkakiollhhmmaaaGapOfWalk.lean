/-
  The walk of laws.FnExactGapOf.
-/
import Derived.Test.YtkakiollhhmmaaaGapKit
namespace Go.Proofs.Ytkakiollhhmmaaa
open Go.RowKit
set_option linter.unusedVariables false
set_option maxRecDepth 20000

/-- A copy of a list: laws.toIntS, its answer in letters. -/
theorem toInts_exG (a : Option Addr) (cap : Nat) (xs : List Int) (w : World) (ht : Ints w a xs) (hl : xs.length ≤ 1048576) :
    Calls Try.prog 15 #[.slice a xs.length cap] w fun e w' => (∃ (p : Option Addr) (c : Nat), e = .returned (.slice p xs.length c) ∧ Ints w' p xs) ∧ Below w.heap.size w w' := by
  refine (toIntS_any a cap xs w ht hl).mono ?_
  rintro e w' ⟨v, rfl, ho, hb⟩
  obtain ⟨p, c, rfl, i, _⟩ := ints_of_owns ho
  exact ⟨⟨p, c, rfl, i⟩, hb⟩

set_option maxHeartbeats 1600000 in
theorem fnExactGapOf_walk (a1 : Option Addr) (xs : List Int) (c1 : Nat) (a2 : Option Addr) (ys : List Int) (c2 : Nat) (w : World) (h1 : Ints w a1 xs) (m1 : xs.length ≤ maxLen) (h2 : Ints w a2 ys) (m2 : ys.length ≤ maxLen) :
    Calls Try.prog 4 #[.slice a1 xs.length c1, .slice a2 ys.length c2] w fun e w' => e = .returned (.bool true) ∧ Below w.heap.size w w' := by
  have H : Hid (∀ w', Below w.heap.size w w' → Ints w' a1 xs ∧ Ints w' a2 ys) := fun w' hb => ⟨h1.below hb (Nat.le_refl _), h2.below hb (Nat.le_refl _)⟩
  clear h1 h2
  have mm1 := m1
  have mm2 := m2
  unfold maxLen at mm1 mm2
  by_cases k1 : 1048576 < xs.length
  · go_enter Try.func4, Try.ntmps4
    go_wp2
    go_ret
    exact ⟨rfl, Below.refl _ _⟩
  by_cases k2 : 1048576 < ys.length
  · go_enter Try.func4, Try.ntmps4
    go_wp2
    go_ret
    exact ⟨rfl, Below.refl _ _⟩
  have j1 : xs.length ≤ 1048576 := by omega
  have j2 : ys.length ≤ 1048576 := by omega
  go_enter Try.func4, Try.ntmps4
  go_wp2_with fail
  refine (toInts_exG _ _ xs w (H.out w (Below.refl _ _)).1 j1).mono ?_
  rintro e w1 ⟨⟨p1, q1, rfl, i1⟩, hc⟩
  have hb1 : Below w.heap.size w w1 := hc
  have I1 : Hid (∀ w', Below w1.heap.size w1 w' → Ints w' p1 xs) := fun w' hb => i1.below hb (Nat.le_refl _)
  clear hc i1
  go_wp2_with fail
  refine (toInts_exG _ _ ys w1 (H.out w1 hb1).2 j2).mono ?_
  rintro e w2 ⟨⟨p2, q2, rfl, i2⟩, hc⟩
  have hb2 := hb1.trans (hc.mono hb1.size)
  have HS2 : Hid (Ints w2 p1 xs ∧ Ints w2 p2 ys) := ⟨I1.out w2 hc, i2⟩
  clear hc i2 I1 hb1
  go_wp2_with fail
  refine (specGapOf _ _ _ _ xs ys w2 HS2.out.1 HS2.out.2 m1 m2).mono ?_
  rintro e w3 ⟨rfl, hc⟩
  have hb3 := hb2.trans (hc.mono hb2.size)
  clear hc HS2 hb2
  go_wp2_with fail
  refine (toInts_exG _ _ xs w3 (H.out w3 hb3).1 j1).mono ?_
  rintro e w4 ⟨⟨p3, q3, rfl, i3⟩, hc⟩
  have hb4 := hb3.trans (hc.mono hb3.size)
  have I3 : Hid (∀ w', Below w4.heap.size w4 w' → Ints w' p3 xs) := fun w' hb => i3.below hb (Nat.le_refl _)
  clear hc i3 hb3
  go_wp2_with fail
  refine (toInts_exG _ _ ys w4 (H.out w4 hb4).2 j2).mono ?_
  rintro e w5 ⟨⟨p4, q4, rfl, i4⟩, hc⟩
  have hb5 := hb4.trans (hc.mono hb4.size)
  have I5 : Hid (∀ w', Below w5.heap.size w5 w' → Ints w' p3 xs ∧ Ints w' p4 ys) := fun w' hb => ⟨I3.out w' (hc.trans (hb.mono hc.size)), i4.below hb (Nat.le_refl _)⟩
  clear hc i4 I3 hb4
  go_wp2_with fail
  refine (implGapOf _ _ _ _ xs ys w5 (I5.out w5 (Below.refl _ _)).1 (I5.out w5 (Below.refl _ _)).2 m1 m2).mono ?_
  rintro e w6 ⟨rfl, hc6⟩
  have hb6 := hb5.trans (hc6.mono hb5.size)
  go_wp2_with fail
  refine (toInts_exG _ _ xs w6 (H.out w6 hb6).1 j1).mono ?_
  rintro e w7 ⟨⟨p5, q5, rfl, i5⟩, hc⟩
  have hb7 := hb6.trans (hc.mono hb6.size)
  have hc7 := hc6.trans (hc.mono hc6.size)
  clear hc hb6 hc6
  go_wp2_with fail
  refine (eqIntS_any _ _ _ _ xs w7 (I5.out w7 hc7).1 i5 (by omega)).mono ?_
  rintro e w8 ⟨rfl, hc⟩
  have hb8 := hb7.trans (hc.mono hb7.size)
  have hc8 := hc7.trans (hc.mono hc7.size)
  clear hc hb7 hc7 i5
  go_wp2_with fail
  refine (toInts_exG _ _ ys w8 (H.out w8 hb8).2 j2).mono ?_
  rintro e w9 ⟨⟨p6, q6, rfl, i6⟩, hc⟩
  have hb9 := hb8.trans (hc.mono hb8.size)
  have hc9 := hc8.trans (hc.mono hc8.size)
  clear hc hb8 hc8
  go_wp2_with fail
  refine (eqIntS_any _ _ _ _ ys w9 (I5.out w9 hc9).2 i6 (by omega)).mono ?_
  rintro e w10 ⟨rfl, hc⟩
  have hb10 := hb9.trans (hc.mono hb9.size)
  clear hc hb9 hc9 i6 I5
  go_wp2
  go_ret
  exact ⟨rfl, hb10⟩
end Go.Proofs.Ytkakiollhhmmaaa
