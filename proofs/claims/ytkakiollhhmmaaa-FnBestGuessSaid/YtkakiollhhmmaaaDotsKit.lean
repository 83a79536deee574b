/-
  Lists of dots, of both: the walks of impl.allDots and spec.l13Dots.
-/
import Derived.Test.YtkakiollhhmmaaaEdgeMath
import Derived.Test.YtkakiollhhmmaaaIntKit
import Derived.Test.YtkakiollhhmmaaaInKit
import Derived.Test.YtkakiollhhmmaaaAllKit
import Derived.Deep.RegionHeld3
import Derived.Deep.QuietTactic
import Derived.BigQuiet
namespace Go.Proofs.Ytkakiollhhmmaaa
open Go.RowKit
set_option linter.unusedVariables false
set_option maxRecDepth 20000

set_option maxHeartbeats 800000 in
theorem allDots_any (a : Option Addr) (cap : Nat) (xs : List Int) (w : World) (h : Ints w a xs) (hl : xs.length ≤ maxLen) :
    Calls Try.prog 44 #[.slice a xs.length cap] w fun e w' => e = .returned (.bool (dotsB xs)) ∧ Below w.heap.size w w' := by
  have H : Hid (Ints w a xs) := h
  unfold maxLen at hl
  clear h
  go_enter Try.func44, Try.ntmps44
  go_wp2
  go_loopw [7] (fun i wr => ∃ k : Nat, k ≤ xs.length ∧ i = .int .i64 (k : Int) ∧ Hid (∀ j, j < k → 0 ≤ xs.getD j 0 ∧ xs.getD j 0 ≤ 255) ∧ Below w.heap.size w wr) (fun i _ => xs.length - (intOf i).toNat)
  case atStart => exact ⟨0, Nat.zero_le _, rfl, fun j hj => by omega, Below.refl _ _⟩
  case round =>
    obtain ⟨k, hk, rfl, HN, hb⟩ := hrel
    by_cases hlt : k < xs.length
    · rcases (H.out.below hb (Nat.le_refl _)) with h0 | ⟨b, off, rfl, hg, hc⟩
      · rw [h0] at hlt; simp at hlt
      have d1 := hc k hlt
      clear hc
      have l0 : (0 : Int) ≤ (k : Int) := by omega
      have l1 : (k : Int) < (xs.length : Int) := by omega
      obtain ⟨x, hx⟩ : ∃ x, xs.getD k 0 = x := ⟨_, rfl⟩
      have HX : Hid (xs.getD k 0 = x) := hx
      rw [hx] at d1
      clear hx
      by_cases c1 : x < 0
      · have HV : Hid (dotsB xs = false) := dotsB_no hlt (by rw [HX.out]; omega)
        go_wp2
        go_ret
        exact ⟨by rw [HV.out]; rfl, hb⟩
      · by_cases c2 : 255 < x
        · have HV : Hid (dotsB xs = false) := dotsB_no hlt (by rw [HX.out]; omega)
          go_wp2
          go_ret
          exact ⟨by rw [HV.out]; rfl, hb⟩
        · go_wp2
          go_roundw
          case rel => exact ⟨k + 1, by omega, by go_num, fun j hj => by
            rcases Nat.lt_succ_iff_lt_or_eq.1 hj with h | rfl
            · exact HN.out j h
            · rw [HX.out]; omega, hb⟩
          case measure => simp [intOf]; omega
    · obtain rfl : k = xs.length := by omega
      have HV : Hid (dotsB xs = true) := dotsB_iff.2 HN.out
      go_wp2
      go_ret
      exact ⟨by rw [HV.out]; rfl, hb⟩

set_option maxHeartbeats 800000 in
theorem l13Dots_any (a : Option Addr) (cap : Nat) (xs : List Int) (w : World) (h : Ints w a xs) (hl : xs.length ≤ maxLen) :
    Calls Try.prog 29 #[.slice a xs.length cap] w fun e w' => e = .returned (.bool (wantB xs)) ∧ Below w.heap.size w w' := by
  have H : Hid (Ints w a xs) := h
  unfold maxLen at hl
  clear h
  by_cases h8 : xs.length = 64
  · have HE : Hid (wantB xs = dotsB xs) := by show _ = _; unfold wantB; rw [h8]; rfl
    have HL : Hid (xs.length = 64) := h8
    rw [h8]
    clear h8 hl
    go_enter Try.func29, Try.ntmps29
    go_wp2
    go_loopw [3] (fun i wr => ∃ k : Nat, k ≤ 64 ∧ i = .int .i64 (k : Int) ∧ Hid (∀ j, j < k → 0 ≤ xs.getD j 0 ∧ xs.getD j 0 ≤ 255) ∧ Below w.heap.size w wr) (fun i _ => 64 - (intOf i).toNat)
    case atStart => exact ⟨0, Nat.zero_le _, rfl, fun j hj => by omega, Below.refl _ _⟩
    case round =>
      obtain ⟨k, hk, rfl, HN, hb⟩ := hrel
      by_cases hlt : k < 64
      · have hlt' : k < xs.length := by rw [HL.out]; exact hlt
        rcases (H.out.below hb (Nat.le_refl _)) with h0 | ⟨b, off, rfl, hg, hc⟩
        · rw [h0] at hlt'; simp at hlt'
        have d1 := hc k hlt'
        clear hc
        have l0 : (0 : Int) ≤ (k : Int) := by omega
        have l1 : (k : Int) < 64 := by omega
        obtain ⟨x, hx⟩ : ∃ x, xs.getD k 0 = x := ⟨_, rfl⟩
        have HX : Hid (xs.getD k 0 = x) := hx
        rw [hx] at d1
        clear hx
        by_cases c1 : 0 ≤ x ∧ x ≤ 255
        · have CI := in_any x 0 255 wr
          have e1 : (decide ((0 : Int) ≤ x) && decide (x ≤ 255)) = true := by simp [c1.1, c1.2]
          rw [e1] at CI
          have HC : Hid (Calls Try.prog 42 #[.int .i64 x, .int .i64 0, .int .i64 255] wr _) := CI
          clear CI e1 hlt'
          go_wp2_with (go_at_call 42; refine HC.out.mono ?_; rintro e w1 ⟨rfl, hw⟩; subst w1)
          go_roundw
          case rel => exact ⟨k + 1, by omega, by go_num, fun j hj => by
            rcases Nat.lt_succ_iff_lt_or_eq.1 hj with h | rfl
            · exact HN.out j h
            · rw [HX.out]; omega, hb⟩
          case measure => simp [intOf]; omega
        · have HV : Hid (dotsB xs = false) := dotsB_no hlt' (by rw [HX.out]; exact c1)
          have CI := in_any x 0 255 wr
          have e1 : (decide ((0 : Int) ≤ x) && decide (x ≤ 255)) = false := by simp; omega
          rw [e1] at CI
          have HC : Hid (Calls Try.prog 42 #[.int .i64 x, .int .i64 0, .int .i64 255] wr _) := CI
          clear CI e1 c1 hlt'
          go_wp2_with (go_at_call 42; refine HC.out.mono ?_; rintro e w1 ⟨rfl, hw⟩; subst w1)
          go_ret
          exact ⟨by rw [HE.out, HV.out]; rfl, hb⟩
      · obtain rfl : k = 64 := by omega
        have HV : Hid (dotsB xs = true) := dotsB_iff.2 (by rw [HL.out]; exact HN.out)
        go_wp2
        go_ret
        exact ⟨by rw [HE.out, HV.out]; rfl, hb⟩
  · have HE : Hid (wantB xs = false) := by show _ = _; unfold wantB; rw [show decide (xs.length = 64) = false by simpa using h8]; rfl
    have q1 : ((xs.length : Int) == 64) = false := by rw [beq_eq_false_iff_ne]; omega
    have q2 : (xs.length == 64) = false := by rw [beq_eq_false_iff_ne]; omega
    have q5 : ¬ (xs.length : Int) = 64 := by omega
    have q7 : ((xs.length : Int) != 64) = true := by simpa using q5
    clear H
    go_enter Try.func29, Try.ntmps29
    go_wp2
    go_ret
    exact ⟨by rw [HE.out]; rfl, Below.refl _ _⟩

end Go.Proofs.Ytkakiollhhmmaaa
