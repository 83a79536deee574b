/-
  The walks of impl.Brought and spec.Brought.
-/
import Derived.Test.YtkakiollhhmmaaaPicMath
import Derived.ProofKit
import Derived.Below
namespace Go.Proofs.Ytkakiollhhmmaaa
open Go.RowKit
set_option linter.unusedVariables false
set_option maxRecDepth 20000

set_option maxHeartbeats 400000 in
theorem implBrought (n l m : Int) (w : World) : Calls Try.prog 60 #[.int .i64 n, .int .i64 l, .int .i64 m] w fun e w' => e = .returned (.int .i64 (brF n l m)) ∧ w' = w := by
  unfold brF
  by_cases h1 : m < n
  · rw [show min n m = m by omega]
    by_cases h2 : l < m
    · rw [show max l m = m by omega]
      go_enter Try.func60, Try.ntmps60
      go_wp2
      all_goals go_ret
      all_goals exact ⟨by simp; try omega, rfl⟩
    · rw [show max l m = l by omega]
      go_enter Try.func60, Try.ntmps60
      go_wp2
      all_goals go_ret
      all_goals exact ⟨by simp; try omega, rfl⟩
  · rw [show min n m = n by omega]
    by_cases h2 : l < n
    · rw [show max l n = n by omega]
      go_enter Try.func60, Try.ntmps60
      go_wp2
      all_goals go_ret
      all_goals exact ⟨by simp; try omega, rfl⟩
    · rw [show max l n = l by omega]
      go_enter Try.func60, Try.ntmps60
      go_wp2
      all_goals go_ret
      all_goals exact ⟨by simp; try omega, rfl⟩

set_option maxHeartbeats 400000 in
theorem specBrought (n l m : Int) (w : World) (h : l ≤ m) : Calls Try.prog 50 #[.int .i64 n, .int .i64 l, .int .i64 m] w fun e w' => e = .returned (.int .i64 (brF n l m)) ∧ w' = w := by
  have h0 : ¬ m < l := by omega
  by_cases h1 : n < l
  · rw [show brF n l m = l by unfold brF; omega]
    go_enter Try.func50, Try.ntmps50
    go_wp2
    go_ret
    exact ⟨rfl, rfl⟩
  · by_cases h2 : m < n
    · rw [show brF n l m = m by unfold brF; omega]
      go_enter Try.func50, Try.ntmps50
      go_wp2
      go_ret
      exact ⟨rfl, rfl⟩
    · rw [show brF n l m = n by unfold brF; omega]
      go_enter Try.func50, Try.ntmps50
      go_wp2
      go_ret
      exact ⟨rfl, rfl⟩

end Go.Proofs.Ytkakiollhhmmaaa
