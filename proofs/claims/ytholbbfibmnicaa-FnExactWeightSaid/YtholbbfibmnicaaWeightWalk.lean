/-
  The walks of impl.Weight, spec.Weight and laws.FnExactWeight.
-/
import Derived.Test.YtholbbfibmnicaaAllKit
import Derived.Test.YtholbbfibmnicaaSignMath
import Derived.BigQuiet
namespace Go.Proofs.Ytholbbfibmnicaa
open Go.RowKit
set_option linter.unusedVariables false
set_option maxRecDepth 20000

/-- The sum of the squares; -1 of more than sixty-four numbers, or of one that is too great. -/
def weightL (xs : List Int) : Int := if (decide (xs.length ≤ 64) && inB 80000 xs) = true then sumTo (fun i => xs.getD i 0 * xs.getD i 0) xs.length else -1
theorem square_bd {x : Int} (h0 : -80000 ≤ x) (h1 : x ≤ 80000) : 0 ≤ x * x ∧ x * x ≤ 6400000000 := by
  have e : x * x = (x.natAbs : Int) * (x.natAbs : Int) := (Int.natAbs_mul_self' x).symm
  rw [e]
  have hn : (x.natAbs : Int) ≤ 80000 := by omega
  refine ⟨Int.mul_nonneg (by omega) (by omega), ?_⟩
  exact Int.mul_le_mul (c := 80000) (d := 80000) hn hn (by omega) (by omega)
theorem squares_bd {xs : List Int} (h : inB 80000 xs = true) : ∀ k : Nat, k ≤ xs.length → 0 ≤ sumTo (fun i => xs.getD i 0 * xs.getD i 0) k ∧ sumTo (fun i => xs.getD i 0 * xs.getD i 0) k ≤ (k : Int) * 6400000000 := fun k hk => by
  induction k with
  | zero => simp [sumTo]
  | succ k ih =>
    have h1 := ih (by omega)
    obtain ⟨a0, a1⟩ := inB_iff.1 h k (by omega)
    have h2 := square_bd a0 a1
    rw [sumTo]
    omega

set_option maxHeartbeats 800000 in
theorem implWeight (a : Option Addr) (cap : Nat) (xs : List Int) (w : World) (h : Ints w a xs) (hl : xs.length ≤ maxLen) :
    Calls Try.prog 20 #[.slice a xs.length cap] w fun e w' => e = .returned (.int .i64 (weightL xs)) ∧ Below w.heap.size w w' := by
  have HA : Hid (Calls Try.prog 46 #[.slice a xs.length cap, .int .i64 80000] w _) := implAll a cap xs 80000 w h hl (by omega) (by omega)
  have H : Hid (∀ w', Below w.heap.size w w' → Ints w' a xs) := fun w' hb => h.below hb (Nat.le_refl _)
  unfold maxLen at hl
  by_cases hn : xs.length ≤ 64
  · have hnI : (xs.length : Int) ≤ 64 := by omega
    cases hin : inB 80000 xs with
    | true =>
      have HB : Hid (∀ k : Nat, k ≤ xs.length → 0 ≤ sumTo (fun i => xs.getD i 0 * xs.getD i 0) k ∧ sumTo (fun i => xs.getD i 0 * xs.getD i 0) k ≤ (k : Int) * 6400000000) := squares_bd hin
      have HI : Hid (∀ i, i < xs.length → -80000 ≤ xs.getD i 0 ∧ xs.getD i 0 ≤ 80000) := inB_iff.1 hin
      have HV : Hid (weightL xs = sumTo (fun i => xs.getD i 0 * xs.getD i 0) xs.length) := by
        unfold weightL
        exact if_pos (by rw [hin]; simpa using hn)
      rw [hin] at HA
      clear hin h hn
      go_enter Try.func20, Try.ntmps20
      go_wp2_with (go_at_call 46; refine HA.out.mono ?_; rintro e w1 ⟨rfl, hc1⟩)
      clear HA
      go_loopw [3, 16] (fun v i wr => ∃ k : Nat, k ≤ xs.length ∧ i = .int .i64 (k : Int) ∧ v = .int .i64 (sumTo (fun i => xs.getD i 0 * xs.getD i 0) k) ∧ Below w.heap.size w wr) (fun _ i _ => xs.length - (intOf i).toNat)
      case atStart => exact ⟨0, by omega, rfl, rfl, hc1⟩
      case round =>
        obtain ⟨k, hk, rfl, rfl, hb⟩ := hrel
        clear hc1
        by_cases hlt : k < xs.length
        · rcases H.out wr hb with h0 | ⟨b, off, ha, hg, hc⟩
          · rw [h0] at hlt; simp at hlt
          have d1 := hc k hlt
          clear hc
          subst ha
          have l0 : (0 : Int) ≤ (k : Int) := by omega
          have l1 : (k : Int) < (xs.length : Int) := by omega
          obtain ⟨t0, t1⟩ := HB.out k hk
          obtain ⟨x0, x1⟩ := HI.out k hlt
          obtain ⟨y0, y1⟩ := square_bd x0 x1
          have HN : Hid (sumTo (fun i => xs.getD i 0 * xs.getD i 0) (k + 1) = sumTo (fun i => xs.getD i 0 * xs.getD i 0) k + xs.getD k 0 * xs.getD k 0) := rfl
          generalize sumTo (fun i => xs.getD i 0 * xs.getD i 0) k = t at *
          generalize xs.getD k 0 = x at *
          have hk8 : (k : Int) ≤ 64 := by omega
          have tb1 : t ≤ 409600000000 := by omega
          clear t1
          go_wp2
          refine ⟨⟨k + 1, by omega, by go_num, by rw [HN.out], hb⟩, ?_⟩
          simp [intOf]; omega
        · obtain rfl : k = xs.length := by omega
          go_wp2
          go_ret
          exact ⟨by rw [HV.out]; rfl, hb⟩
    | false =>
      have HV : Hid (weightL xs = -1) := by
        unfold weightL
        exact if_neg (by rw [hin]; simp)
      rw [hin] at HA
      clear hin h hn
      go_enter Try.func20, Try.ntmps20
      go_wp2_with (go_at_call 46; refine HA.out.mono ?_; rintro e w1 ⟨rfl, hc1⟩)
      go_ret
      exact ⟨by rw [HV.out]; rfl, hc1⟩
  · have hnI : 64 < (xs.length : Int) := by omega
    have HV : Hid (weightL xs = -1) := by
      unfold weightL
      exact if_neg (by simp [hn])
    clear HA h hn
    go_enter Try.func20, Try.ntmps20
    go_wp2
    go_ret
    exact ⟨by rw [HV.out]; rfl, Below.refl _ _⟩

set_option maxHeartbeats 800000 in
theorem specWeight (a : Option Addr) (cap : Nat) (xs : List Int) (w : World) (h : Ints w a xs) (hl : xs.length ≤ maxLen) :
    Calls Try.prog 31 #[.slice a xs.length cap] w fun e w' => e = .returned (.int .i64 (weightL xs)) ∧ Below w.heap.size w w' := by
  have HA : Hid (Calls Try.prog 49 #[.slice a xs.length cap, .int .i64 (xs.length : Int), .int .i64 80000] w _) := specAll a cap xs.length xs 80000 w h hl (by omega) (by omega)
  have H : Hid (∀ w', Below w.heap.size w w' → Ints w' a xs) := fun w' hb => h.below hb (Nat.le_refl _)
  rw [show decide (xs.length = xs.length) = true by simp, Bool.true_and] at HA
  unfold maxLen at hl
  by_cases hn : xs.length ≤ 64
  · have hnI : (xs.length : Int) ≤ 64 := by omega
    cases hin : inB 80000 xs with
    | true =>
      have HB : Hid (∀ k : Nat, k ≤ xs.length → 0 ≤ sumTo (fun i => xs.getD i 0 * xs.getD i 0) k ∧ sumTo (fun i => xs.getD i 0 * xs.getD i 0) k ≤ (k : Int) * 6400000000) := squares_bd hin
      have HI : Hid (∀ i, i < xs.length → -80000 ≤ xs.getD i 0 ∧ xs.getD i 0 ≤ 80000) := inB_iff.1 hin
      have HV : Hid (weightL xs = sumTo (fun i => xs.getD i 0 * xs.getD i 0) xs.length) := by
        unfold weightL
        exact if_pos (by rw [hin]; simpa using hn)
      rw [hin] at HA
      clear hin h hn
      go_enter Try.func31, Try.ntmps31
      go_wp2_with (go_at_call 49; refine HA.out.mono ?_; rintro e w1 ⟨rfl, hc1⟩)
      clear HA
      go_loopw [3, 4] (fun v i wr => ∃ k : Nat, k ≤ xs.length ∧ i = .int .i64 (k : Int) ∧ v = .int .i64 (sumTo (fun i => xs.getD i 0 * xs.getD i 0) k) ∧ Below w.heap.size w wr) (fun _ i _ => xs.length - (intOf i).toNat)
      case atStart => exact ⟨0, by omega, rfl, rfl, hc1⟩
      case round =>
        obtain ⟨k, hk, rfl, rfl, hb⟩ := hrel
        clear hc1
        by_cases hlt : k < xs.length
        · rcases H.out wr hb with h0 | ⟨b, off, ha, hg, hc⟩
          · rw [h0] at hlt; simp at hlt
          have d1 := hc k hlt
          clear hc
          subst ha
          have l0 : (0 : Int) ≤ (k : Int) := by omega
          have l1 : (k : Int) < (xs.length : Int) := by omega
          obtain ⟨t0, t1⟩ := HB.out k hk
          obtain ⟨x0, x1⟩ := HI.out k hlt
          obtain ⟨y0, y1⟩ := square_bd x0 x1
          have HN : Hid (sumTo (fun i => xs.getD i 0 * xs.getD i 0) (k + 1) = sumTo (fun i => xs.getD i 0 * xs.getD i 0) k + xs.getD k 0 * xs.getD k 0) := rfl
          generalize sumTo (fun i => xs.getD i 0 * xs.getD i 0) k = t at *
          generalize xs.getD k 0 = x at *
          have hk8 : (k : Int) ≤ 64 := by omega
          have tb1 : t ≤ 409600000000 := by omega
          clear t1
          go_wp2_with fail
          go_quiet (fail)
          go_wp2
          refine ⟨⟨k + 1, by omega, by go_num, by rw [HN.out], below_drewN hb _⟩, ?_⟩
          simp [intOf]; omega
        · obtain rfl : k = xs.length := by omega
          go_wp2
          go_ret
          exact ⟨by rw [HV.out]; rfl, hb⟩
    | false =>
      have HV : Hid (weightL xs = -1) := by
        unfold weightL
        exact if_neg (by rw [hin]; simp)
      rw [hin] at HA
      clear hin h hn
      go_enter Try.func31, Try.ntmps31
      go_wp2_with (go_at_call 49; refine HA.out.mono ?_; rintro e w1 ⟨rfl, hc1⟩)
      go_ret
      exact ⟨by rw [HV.out]; rfl, hc1⟩
  · have hnI : 64 < (xs.length : Int) := by omega
    have HV : Hid (weightL xs = -1) := by
      unfold weightL
      exact if_neg (by simp [hn])
    clear HA h hn
    go_enter Try.func31, Try.ntmps31
    go_wp2
    go_ret
    exact ⟨by rw [HV.out]; rfl, Below.refl _ _⟩

set_option maxHeartbeats 800000 in
theorem fnExactWeight_walk (a : Option Addr) (cap : Nat) (xs : List Int) (w : World) (h : Ints w a xs) (hl : xs.length ≤ maxLen) :
    Calls Try.prog 11 #[.slice a xs.length cap] w fun e w' => e = .returned (.bool true) ∧ Below w.heap.size w w' := by
  have hl' := hl
  unfold maxLen at hl'
  by_cases k1 : 1048576 < xs.length
  · go_enter Try.func11, Try.ntmps11
    go_wp2
    go_ret
    exact ⟨rfl, Below.refl _ _⟩
  have j1 : xs.length ≤ 1048576 := by omega
  have CT : Hid (∀ w', Below w.heap.size w w' → Calls Try.prog 23 #[.slice a xs.length cap] w' (fun e w'' => (∃ p c, e = .returned (.slice p xs.length c) ∧ Ints w'' p xs) ∧ Below w'.heap.size w' w'')) := fun w' hb => by
    refine (toIntS_any a cap xs w' (h.below hb (Nat.le_refl _)) j1).mono ?_
    rintro e w'' ⟨v, rfl, ho, hc⟩
    obtain ⟨p, c, rfl, i, _⟩ := ints_of_owns ho
    exact ⟨⟨p, c, rfl, i⟩, hc⟩
  have nxs : (xs.length : Int) ≤ 1048576 := by omega
  clear h k1
  go_enter Try.func11, Try.ntmps11
  go_wp2_with fail
  refine (CT.out w (Below.refl _ _)).mono ?_
  rintro e w1 ⟨⟨p1, c1, rfl, i1⟩, hb1⟩
  go_wp2_with fail
  refine (specWeight p1 c1 xs w1 i1 hl).mono ?_
  rintro e w2 ⟨rfl, hc⟩
  have hb2 := hb1.trans (hc.mono hb1.size)
  clear hc hb1 i1
  go_wp2_with fail
  refine (CT.out w2 hb2).mono ?_
  rintro e w3 ⟨⟨p3, c3, rfl, i3⟩, hc⟩
  have hb3 := hb2.trans (hc.mono hb2.size)
  clear hc hb2
  go_wp2_with fail
  refine (implWeight p3 c3 xs w3 i3 hl).mono ?_
  rintro e w4 ⟨rfl, hc4⟩
  have hb4 := hb3.trans (hc4.mono hb3.size)
  have I3 : Hid (∀ w', Below w3.heap.size w3 w' → Ints w' p3 xs) := fun w' hb => i3.below hb (Nat.le_refl _)
  clear hb3 i3
  go_wp2_with fail
  refine (CT.out w4 hb4).mono ?_
  rintro e w5 ⟨⟨p5, c5, rfl, i5⟩, hc⟩
  have hb5 := hb4.trans (hc.mono hb4.size)
  have hc5 := hc4.trans (hc.mono hc4.size)
  clear hc hb4 hc4
  go_wp2_with fail
  refine (eqIntS_any _ _ _ _ xs w5 (I3.out w5 hc5) i5 (by omega)).mono ?_
  rintro e w6 ⟨rfl, hc⟩
  go_wp2
  go_ret
  exact ⟨rfl, hb5.trans (hc.mono hb5.size)⟩
end Go.Proofs.Ytholbbfibmnicaa
