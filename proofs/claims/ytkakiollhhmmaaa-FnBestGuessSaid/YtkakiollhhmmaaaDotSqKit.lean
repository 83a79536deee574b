/-
  Squares of dots: the walk of impl.dotSquareOk.
-/
import Derived.Test.YtkakiollhhmmaaaEdgeMath
import Derived.Test.YtkakiollhhmmaaaDotsKit
namespace Go.Proofs.Ytkakiollhhmmaaa
open Go.RowKit
set_option linter.unusedVariables false
set_option maxRecDepth 20000

set_option maxHeartbeats 400000 in
theorem dotSquareOk_any (a : Option Addr) (cap : Nat) (xs : List Int) (w : World) (h : Ints w a xs) (hl : xs.length ≤ maxLen) :
    Calls Try.prog 26 #[.slice a xs.length cap] w fun e w' => e = .returned (.bool (wantB xs)) ∧ Below w.heap.size w w' := by
  have HC : Hid (Calls Try.prog 44 #[.slice a xs.length cap] w fun e w' => e = .returned (.bool (dotsB xs)) ∧ Below w.heap.size w w') := allDots_any a cap xs w h hl
  unfold maxLen at hl
  clear h
  by_cases h8 : xs.length = 64
  · have HE : Hid (wantB xs = dotsB xs) := by show _ = _; unfold wantB; rw [h8]; rfl
    rw [h8] at HC ⊢
    generalize dotsB xs = D at *
    clear h8 hl
    go_enter Try.func26, Try.ntmps26
    go_wp2_with (go_at_call 44; refine HC.out.mono ?_; rintro e w1 ⟨rfl, hb⟩)
    go_ret
    exact ⟨by rw [HE.out]; rfl, hb⟩
  · have HE : Hid (wantB xs = false) := by show _ = _; unfold wantB; rw [show decide (xs.length = 64) = false by simpa using h8]; rfl
    have q1 : ((xs.length : Int) == 64) = false := by rw [beq_eq_false_iff_ne]; omega
    have q2 : (xs.length == 64) = false := by rw [beq_eq_false_iff_ne]; omega
    have q5 : ¬ (xs.length : Int) = 64 := by omega
    have q7 : ((xs.length : Int) != 64) = true := by simpa using q5
    clear HC
    go_enter Try.func26, Try.ntmps26
    go_wp2
    go_ret
    exact ⟨by rw [HE.out]; rfl, Below.refl _ _⟩
end Go.Proofs.Ytkakiollhhmmaaa
