/-
  Lists of 64: the walk of impl.numberSquareOk.
-/
import Derived.Test.YtnlbigjfnjcldaaSqMath
import Derived.Test.YtnlbigjfnjcldaaIntKit
namespace Go.Proofs.Ytnlbigjfnjcldaa
open Go.RowKit
set_option linter.unusedVariables false
set_option maxRecDepth 20000

set_option maxHeartbeats 400000 in
theorem numberSquareOk_any (a : Option Addr) (cap : Nat) (xs : List Int) (M : Int) (w : World) (h : Ints w a xs) (hl : xs.length ≤ maxLen) (m0 : 0 ≤ M) (m1 : M ≤ 100000000) :
    Calls Try.prog 37 #[.slice a xs.length cap, .int .i64 M] w fun e w' => e = .returned (.bool (sqB M xs)) ∧ Below w.heap.size w w' := by
  have HC : Hid (Calls Try.prog 36 #[.slice a xs.length cap, .int .i64 M] w fun e w' => e = .returned (.bool (inB M xs)) ∧ Below w.heap.size w w') := implAll a cap xs M w h hl m0 m1
  unfold maxLen at hl
  clear h
  by_cases h8 : xs.length = 64
  · have HE : Hid (sqB M xs = inB M xs) := by show _ = _; unfold sqB; rw [h8]; rfl
    rw [h8] at HC ⊢
    generalize inB M xs = D at *
    clear h8 hl
    go_enter Try.func37, Try.ntmps37
    go_wp2_with (go_at_call 36; refine HC.out.mono ?_; rintro e w1 ⟨rfl, hb⟩)
    go_ret
    exact ⟨by rw [HE.out]; rfl, hb⟩
  · have HE : Hid (sqB M xs = false) := by show _ = _; unfold sqB; rw [show decide (xs.length = 64) = false by simpa using h8]; rfl
    have q1 : ((xs.length : Int) == 64) = false := by rw [beq_eq_false_iff_ne]; omega
    have q2 : (xs.length == 64) = false := by rw [beq_eq_false_iff_ne]; omega
    have q5 : ¬ (xs.length : Int) = 64 := by omega
    have q7 : ((xs.length : Int) != 64) = true := by simpa using q5
    clear HC
    go_enter Try.func37, Try.ntmps37
    go_wp2
    go_ret
    exact ⟨by rw [HE.out]; rfl, Below.refl _ _⟩

end Go.Proofs.Ytnlbigjfnjcldaa
