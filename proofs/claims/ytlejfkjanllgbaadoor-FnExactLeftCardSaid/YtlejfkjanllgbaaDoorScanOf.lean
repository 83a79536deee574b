/-
  impl.scanOf, impl.ScanAt.
-/
import Derived.Test.YtlejfkjanllgbaaDoorScanRange
import Derived.Test.YtlejfkjanllgbaaDoorIntAll
namespace Go.Proofs.YtlejfkjanllgbaaDoor
open Go.RowKit
set_option linter.unusedVariables false
set_option maxRecDepth 20000
attribute [local go_sem] Oper.semAt_some

theorem scanOf_any (s : Int) (w : World) : Calls Tryd.prog 123 #[.int .i64 s] w fun e w' => e = .returned (.tuple #[.int .i64 s, .bool (decide (s = 4) || decide (s = 8))]) ∧ w' = w := by
  by_cases h1 : s = 4
  · subst h1
    go_enter Tryd.func123, Tryd.ntmps123
    go_wp2
    all_goals go_ret2
    all_goals exact ⟨rfl, rfl⟩
  · by_cases h2 : s = 8
    · subst h2
      go_enter Tryd.func123, Tryd.ntmps123
      go_wp2
      all_goals go_ret2
      all_goals exact ⟨rfl, rfl⟩
    · have e1 : (decide (s = 4) || decide (s = 8)) = false := by simp [h1, h2]
      rw [e1]
      have q1 : (s == 4) = false := by rw [beq_eq_false_iff_ne]; exact h1
      have q2 : (s == 8) = false := by rw [beq_eq_false_iff_ne]; exact h2
      go_enter Tryd.func123, Tryd.ntmps123
      go_wp2
      all_goals go_ret2
      all_goals exact ⟨by simp, rfl⟩
theorem side_yes {sd : Nat} (hs : SideOk sd) : (decide ((sd : Int) = 4) || decide ((sd : Int) = 8)) = true := by rcases hs with rfl | rfl <;> rfl

/-- What ScanAt answers. -/
def atF (s k : Int) : Int := if (s = 4 ∨ s = 8) ∧ 0 ≤ k ∧ k < s * s then (scF s.toNat k.toNat : Int) else -1

end Go.Proofs.YtlejfkjanllgbaaDoor
