/-
  The walks of spec.FoldSe and spec.OpenSe.
-/
import Derived.Test.YtlejfkjanllgbaaGreatDoorFoldMath
import Derived.Test.YtlejfkjanllgbaaGreatDoorInAny
namespace Go.Proofs.YtlejfkjanllgbaaGreatDoor
open Go.RowKit
set_option linter.unusedVariables false
set_option maxRecDepth 20000

theorem specFold (n : Int) (w : World) (h : -500000 ≤ n ∧ n ≤ 500000) :
    Calls Tryz.prog 102 #[.int .i64 n] w fun e w' => e = .returned (.tuple #[.int .i64 (seF n), .bool true]) ∧ w' = w := by
  have hin : (decide ((-500000 : Int) ≤ n) && decide (n ≤ 500000)) = true := by simp; omega
  obtain ⟨h0, h1⟩ := h
  by_cases c : 0 < n
  · have HF : Hid (seF n = 2 * n - 1) := seF_pos n c
    go_enter Tryz.func102, Tryz.ntmps102
    go_wp2_with (go_at_call 52; refine (in_any _ _ _ _).mono ?_; rintro e w1 ⟨rfl, hw⟩; subst w1)
    go_ret2
    exact ⟨by rw [HF.out]; rfl, rfl⟩
  · have HF : Hid (seF n = -2 * n) := seF_neg n c
    go_enter Tryz.func102, Tryz.ntmps102
    go_wp2_with (go_at_call 52; refine (in_any _ _ _ _).mono ?_; rintro e w1 ⟨rfl, hw⟩; subst w1)
    go_ret2
    exact ⟨by rw [HF.out]; rfl, rfl⟩
theorem specFold_no (n : Int) (w : World) (h : n < -500000 ∨ 500000 < n) :
    Calls Tryz.prog 102 #[.int .i64 n] w fun e w' => e = .returned (.tuple #[.int .i64 0, .bool false]) ∧ w' = w := by
  have hin : (decide ((-500000 : Int) ≤ n) && decide (n ≤ 500000)) = false := by simp; omega
  clear h
  go_enter Tryz.func102, Tryz.ntmps102
  go_wp2_with (go_at_call 52; refine (in_any _ _ _ _).mono ?_; rintro e w1 ⟨rfl, hw⟩; subst w1)
  go_ret2
  exact ⟨rfl, rfl⟩
end Go.Proofs.YtlejfkjanllgbaaGreatDoor
