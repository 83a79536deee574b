/-
  How far apart two lists are, of both: the walks of impl.withoutSign, spec.l08Sized, impl.GapOf and spec.GapOf.
-/
import Derived.Test.YtkakiollhhmmaaaEdgeMath
import Derived.Test.YtkakiollhhmmaaaEdgeKit
import Derived.Test.YtkakiollhhmmaaaSqOkKit
namespace Go.Proofs.Ytkakiollhhmmaaa
open Go.RowKit
set_option linter.unusedVariables false
set_option maxRecDepth 20000

set_option maxHeartbeats 400000 in
theorem gap_without (x : Int) (w : World) (h : -2000 ≤ x ∧ x ≤ 2000) : Calls Try.prog 33 #[.int .i64 x] w fun e w' => e = .returned (.int .i64 (absN x)) ∧ w' = w := by
  unfold absN
  by_cases h0 : x < 0
  · rw [if_pos h0]
    go_enter Try.func33, Try.ntmps33
    go_wp2
    go_ret
    exact ⟨rfl, rfl⟩
  · rw [if_neg h0]
    go_enter Try.func33, Try.ntmps33
    go_wp2
    go_ret
    exact ⟨rfl, rfl⟩
set_option maxHeartbeats 400000 in
theorem gap_sized (x : Int) (w : World) (h : -2000 ≤ x ∧ x ≤ 2000) : Calls Try.prog 36 #[.int .i64 x] w fun e w' => e = .returned (.int .i64 (absN x)) ∧ w' = w := by
  unfold absN
  by_cases h0 : x < 0
  · rw [if_pos h0]
    go_enter Try.func36, Try.ntmps36
    go_wp2
    go_ret
    exact ⟨rfl, rfl⟩
  · rw [if_neg h0]
    go_enter Try.func36, Try.ntmps36
    go_wp2
    go_ret
    exact ⟨rfl, rfl⟩

theorem gapList_any (a : Option Addr) (cap : Nat) (xs : List Int) (w : World) (h : Ints w a xs) (hl : xs.length ≤ maxLen) :
    Calls Try.prog 32 #[.slice a xs.length cap, .int .i64 1000] w fun e w' => e = .returned (.bool (gapB xs)) ∧ Below w.heap.size w w' := numberSquareOk_any a cap xs 1000 w h hl (by decide) (by decide)

set_option maxHeartbeats 800000 in
theorem implGapOf (a1 a2 : Option Addr) (c1 c2 : Nat) (xs ys : List Int) (w : World) (h1 : Ints w a1 xs) (h2 : Ints w a2 ys) (m1 : xs.length ≤ maxLen) (m2 : ys.length ≤ maxLen) :
    Calls Try.prog 11 #[.slice a1 xs.length c1, .slice a2 ys.length c2] w fun e w' => e = .returned (.int .i64 (gapI xs ys)) ∧ Below w.heap.size w w' := by
  have H1 : Hid (∀ w', Below w.heap.size w w' → Calls Try.prog 32 #[.slice a1 xs.length c1, .int .i64 1000] w' fun e w'' => e = .returned (.bool (gapB xs)) ∧ Below w'.heap.size w' w'') := fun w' hb => gapList_any a1 c1 xs w' (h1.below hb (Nat.le_refl _)) m1
  have H2 : Hid (∀ w', Below w.heap.size w w' → Calls Try.prog 32 #[.slice a2 ys.length c2, .int .i64 1000] w' fun e w'' => e = .returned (.bool (gapB ys)) ∧ Below w'.heap.size w' w'') := fun w' hb => gapList_any a2 c2 ys w' (h2.below hb (Nat.le_refl _)) m2
  have HI : Hid (∀ w', Below w.heap.size w w' → Ints w' a1 xs ∧ Ints w' a2 ys) := fun w' hb => ⟨h1.below hb (Nat.le_refl _), h2.below hb (Nat.le_refl _)⟩
  have HB : Hid (¬ (gapB xs = true ∧ gapB ys = true) → gapI xs ys = -1) := fun h => gapI_bad h
  have HG : Hid (gapB xs = true → gapB ys = true → gapI xs ys = gapN xs ys 64 ∧ (xs.length = 64 ∧ ys.length = 64) ∧ (∀ i, i < 64 → -1000 ≤ xs.getD i 0 ∧ xs.getD i 0 ≤ 1000) ∧ (∀ i, i < 64 → -1000 ≤ ys.getD i 0 ∧ ys.getD i 0 ≤ 1000)) := fun p q => by
    obtain ⟨a, b⟩ := gapB_iff.1 p
    obtain ⟨c, d⟩ := gapB_iff.1 q
    exact ⟨gapI_of p q, ⟨a, c⟩, fun i hi => inB_iff.1 b i (by omega), fun i hi => inB_iff.1 d i (by omega)⟩
  unfold maxLen at m1 m2
  clear h1 h2
  generalize gapI xs ys = R at *
  generalize gapB xs = X at *
  generalize gapB ys = Y at *
  go_enter Try.func11, Try.ntmps11
  go_wp2_with fail
  refine (H1.out w (Below.refl _ _)).mono ?_
  rintro e w1 ⟨rfl, hb1⟩
  rcases X with _ | _
  · have HV : Hid (R = -1) := HB.out (by simp)
    go_wp2
    go_ret
    exact ⟨by rw [HV.out]; rfl, hb1⟩
  go_wp2_with fail
  refine (H2.out w1 hb1).mono ?_
  rintro e w2 ⟨rfl, hb⟩
  have hb2 := hb1.trans (hb.mono hb1.size)
  clear hb hb1
  rcases Y with _ | _
  · have HV : Hid (R = -1) := HB.out (by simp)
    go_wp2
    go_ret
    exact ⟨by rw [HV.out]; rfl, hb2⟩
  obtain ⟨hr, ⟨l1, l2⟩, r1, r2⟩ := HG.out (by trivial) (by trivial)
  have HR : Hid (R = gapN xs ys 64) := hr
  have HX : Hid (∀ i, i < 64 → -1000 ≤ xs.getD i 0 ∧ xs.getD i 0 ≤ 1000) := r1
  have HY : Hid (∀ i, i < 64 → -1000 ≤ ys.getD i 0 ∧ ys.getD i 0 ≤ 1000) := r2
  have HK : Hid (∀ n, n ≤ 64 → 0 ≤ gapN xs ys n ∧ gapN xs ys n ≤ 2000 * (n : Int)) := fun n hn => by have := gapN_bd (M := 1000) r1 r2 n hn; omega
  have HLx : Hid (xs.length = 64 ∧ ys.length = 64) := ⟨l1, l2⟩
  rw [l1, l2]
  clear HB HG H1 H2 m1 m2 hr r1 r2 l1 l2
  go_wp2
  go_loopw [5, 18] (fun u i wr => ∃ k : Nat, k ≤ 64 ∧ i = .int .i64 (k : Int) ∧ u = .int .i64 (gapN xs ys k) ∧ Below w.heap.size w wr) (fun _ i _ => 64 - (intOf i).toNat)
  case atStart => exact ⟨0, Nat.zero_le _, rfl, rfl, hb2⟩
  case round =>
    obtain ⟨k, hk, rfl, rfl, hb⟩ := hrel
    clear hb2
    by_cases hlt : k < 64
    · obtain ⟨i1, i2⟩ := HI.out wr hb
      have e1 : k < xs.length := by rw [HLx.out.1]; exact hlt
      have e2 : k < ys.length := by rw [HLx.out.2]; exact hlt
      rcases i1 with h0 | ⟨b1, o1, rfl, hg1, hc1⟩
      · rw [h0] at e1; simp at e1
      rcases i2 with h0 | ⟨b2, o2, rfl, hg2, hc2⟩
      · rw [h0] at e2; simp at e2
      have d1 := hc1 k e1
      have d2 := hc2 k e2
      obtain ⟨p0, p1⟩ := HX.out k hlt
      obtain ⟨q0, q1⟩ := HY.out k hlt
      obtain ⟨s0, s1⟩ := HK.out k (by omega)
      have HS : Hid (gapN xs ys (k + 1) = gapN xs ys k + absN (xs.getD k 0 - ys.getD k 0)) := rfl
      have HC : Hid (∀ w', Calls Try.prog 33 #[.int .i64 (xs.getD k 0 - ys.getD k 0)] w' fun e w'' => e = .returned (.int .i64 (absN (xs.getD k 0 - ys.getD k 0))) ∧ w'' = w') := fun w' => gap_without _ w' (by omega)
      have ha : 0 ≤ absN (xs.getD k 0 - ys.getD k 0) ∧ absN (xs.getD k 0 - ys.getD k 0) ≤ 2000 := by unfold absN; split <;> omega
      have l0 : (0 : Int) ≤ (k : Int) := by omega
      have l1 : (k : Int) < 64 := by omega
      clear hc1 hc2 e1 e2
      generalize absN (xs.getD k 0 - ys.getD k 0) = A at *
      generalize xs.getD k 0 = x at *
      generalize ys.getD k 0 = y at *
      generalize gapN xs ys k = G at *
      go_wp2_with (go_at_call 33; refine (HC.out _).mono ?_; rintro e w3 ⟨rfl, hw⟩; subst w3)
      go_roundw
      case rel => exact ⟨k + 1, by omega, by go_num, by rw [HS.out], hb⟩
      case measure => simp [intOf]; omega
    · obtain rfl : k = 64 := by omega
      go_wp2
      go_ret
      exact ⟨by rw [HR.out]; rfl, hb⟩

set_option maxHeartbeats 800000 in
theorem specGapOf (a1 a2 : Option Addr) (c1 c2 : Nat) (xs ys : List Int) (w : World) (h1 : Ints w a1 xs) (h2 : Ints w a2 ys) (m1 : xs.length ≤ maxLen) (m2 : ys.length ≤ maxLen) :
    Calls Try.prog 14 #[.slice a1 xs.length c1, .slice a2 ys.length c2] w fun e w' => e = .returned (.int .i64 (gapI xs ys)) ∧ Below w.heap.size w w' := by
  have H1 : Hid (∀ w', Below w.heap.size w w' → Calls Try.prog 35 #[.slice a1 xs.length c1, .int .i64 64, .int .i64 1000] w' fun e w'' => e = .returned (.bool (gapB xs)) ∧ Below w'.heap.size w' w'') := fun w' hb => specAll a1 c1 64 xs 1000 w' (h1.below hb (Nat.le_refl _)) m1 (by decide) (by decide)
  have H2 : Hid (∀ w', Below w.heap.size w w' → Calls Try.prog 35 #[.slice a2 ys.length c2, .int .i64 64, .int .i64 1000] w' fun e w'' => e = .returned (.bool (gapB ys)) ∧ Below w'.heap.size w' w'') := fun w' hb => specAll a2 c2 64 ys 1000 w' (h2.below hb (Nat.le_refl _)) m2 (by decide) (by decide)
  have HI : Hid (∀ w', Below w.heap.size w w' → Ints w' a1 xs ∧ Ints w' a2 ys) := fun w' hb => ⟨h1.below hb (Nat.le_refl _), h2.below hb (Nat.le_refl _)⟩
  have HB : Hid (¬ (gapB xs = true ∧ gapB ys = true) → gapI xs ys = -1) := fun h => gapI_bad h
  have HG : Hid (gapB xs = true → gapB ys = true → gapI xs ys = gapN xs ys 64 ∧ (xs.length = 64 ∧ ys.length = 64) ∧ (∀ i, i < 64 → -1000 ≤ xs.getD i 0 ∧ xs.getD i 0 ≤ 1000) ∧ (∀ i, i < 64 → -1000 ≤ ys.getD i 0 ∧ ys.getD i 0 ≤ 1000)) := fun p q => by
    obtain ⟨a, b⟩ := gapB_iff.1 p
    obtain ⟨c, d⟩ := gapB_iff.1 q
    exact ⟨gapI_of p q, ⟨a, c⟩, fun i hi => inB_iff.1 b i (by omega), fun i hi => inB_iff.1 d i (by omega)⟩
  unfold maxLen at m1 m2
  clear h1 h2
  generalize gapI xs ys = R at *
  generalize gapB xs = X at *
  generalize gapB ys = Y at *
  go_enter Try.func14, Try.ntmps14
  go_wp2_with fail
  refine (H1.out w (Below.refl _ _)).mono ?_
  rintro e w1 ⟨rfl, hb1⟩
  rcases X with _ | _
  · have HV : Hid (R = -1) := HB.out (by simp)
    go_wp2
    go_ret
    exact ⟨by rw [HV.out]; rfl, hb1⟩
  go_wp2_with fail
  refine (H2.out w1 hb1).mono ?_
  rintro e w2 ⟨rfl, hb⟩
  have hb2 := hb1.trans (hb.mono hb1.size)
  clear hb hb1
  rcases Y with _ | _
  · have HV : Hid (R = -1) := HB.out (by simp)
    go_wp2
    go_ret
    exact ⟨by rw [HV.out]; rfl, hb2⟩
  obtain ⟨hr, ⟨l1, l2⟩, r1, r2⟩ := HG.out (by trivial) (by trivial)
  have HR : Hid (R = gapN xs ys 64) := hr
  have HX : Hid (∀ i, i < 64 → -1000 ≤ xs.getD i 0 ∧ xs.getD i 0 ≤ 1000) := r1
  have HY : Hid (∀ i, i < 64 → -1000 ≤ ys.getD i 0 ∧ ys.getD i 0 ≤ 1000) := r2
  have HK : Hid (∀ n, n ≤ 64 → 0 ≤ gapN xs ys n ∧ gapN xs ys n ≤ 2000 * (n : Int)) := fun n hn => by have := gapN_bd (M := 1000) r1 r2 n hn; omega
  have HLx : Hid (xs.length = 64 ∧ ys.length = 64) := ⟨l1, l2⟩
  rw [l1, l2]
  clear HB HG H1 H2 m1 m2 hr r1 r2 l1 l2
  go_wp2
  go_loopw [5, 6] (fun u i wr => ∃ k : Nat, k ≤ 64 ∧ i = .int .i64 (k : Int) ∧ u = .int .i64 (gapN xs ys k) ∧ Below w.heap.size w wr) (fun _ i _ => 64 - (intOf i).toNat)
  case atStart => exact ⟨0, Nat.zero_le _, rfl, rfl, hb2⟩
  case round =>
    obtain ⟨k, hk, rfl, rfl, hb⟩ := hrel
    clear hb2
    by_cases hlt : k < 64
    · obtain ⟨i1, i2⟩ := HI.out wr hb
      have e1 : k < xs.length := by rw [HLx.out.1]; exact hlt
      have e2 : k < ys.length := by rw [HLx.out.2]; exact hlt
      rcases i1 with h0 | ⟨b1, o1, rfl, hg1, hc1⟩
      · rw [h0] at e1; simp at e1
      rcases i2 with h0 | ⟨b2, o2, rfl, hg2, hc2⟩
      · rw [h0] at e2; simp at e2
      have d1 := hc1 k e1
      have d2 := hc2 k e2
      obtain ⟨p0, p1⟩ := HX.out k hlt
      obtain ⟨q0, q1⟩ := HY.out k hlt
      obtain ⟨s0, s1⟩ := HK.out k (by omega)
      have HS : Hid (gapN xs ys (k + 1) = gapN xs ys k + absN (xs.getD k 0 - ys.getD k 0)) := rfl
      have HC : Hid (∀ w', Calls Try.prog 36 #[.int .i64 (xs.getD k 0 - ys.getD k 0)] w' fun e w'' => e = .returned (.int .i64 (absN (xs.getD k 0 - ys.getD k 0))) ∧ w'' = w') := fun w' => gap_sized _ w' (by omega)
      have ha : 0 ≤ absN (xs.getD k 0 - ys.getD k 0) ∧ absN (xs.getD k 0 - ys.getD k 0) ≤ 2000 := by unfold absN; split <;> omega
      have l0 : (0 : Int) ≤ (k : Int) := by omega
      have l1 : (k : Int) < 64 := by omega
      clear hc1 hc2 e1 e2
      generalize absN (xs.getD k 0 - ys.getD k 0) = A at *
      generalize xs.getD k 0 = x at *
      generalize ys.getD k 0 = y at *
      generalize gapN xs ys k = G at *
      go_wp2_with fail
      go_quiet ((go_at_call 36; exact Calls.quiet_of_same (HC.out _)))
      go_wp2
      go_roundw
      case rel => exact ⟨k + 1, by omega, by go_num, by rw [HS.out], below_drewN hb _⟩
      case measure => simp [intOf]; omega
    · obtain rfl : k = 64 := by omega
      go_wp2
      go_ret
      exact ⟨by rw [HR.out]; rfl, hb⟩
end Go.Proofs.Ytkakiollhhmmaaa
