/-
  The walks of spec.FoldSe and spec.OpenSe.
-/
import Derived.Test.YtlejfkjanllgbaaDoorFoldMath
import Derived.Test.YtlejfkjanllgbaaDoorInAny
namespace Go.Proofs.YtlejfkjanllgbaaDoor
open Go.RowKit
set_option linter.unusedVariables false
set_option maxRecDepth 20000

theorem specOpen (u : Int) (w : World) (h : 0 ≤ u ∧ u ≤ 1000000) :
    Calls Tryd.prog 117 #[.int .i64 u] w fun e w' => e = .returned (.tuple #[.int .i64 (seO u), .bool true]) ∧ w' = w := by
  have hin : (decide ((0 : Int) ≤ u) && decide (u ≤ 1000000)) = true := by simp; omega
  obtain ⟨h0, h1⟩ := h
  by_cases c : u % 2 = 1
  · have HF : Hid (seO u = (u + 1) / 2) := seO_odd u c
    go_enter Tryd.func117, Tryd.ntmps117
    go_wp2_with (go_at_call 47; refine (in_any _ _ _ _).mono ?_; rintro e w1 ⟨rfl, hw⟩; subst w1)
    go_ret2
    exact ⟨by rw [HF.out]; rfl, rfl⟩
  · have HF : Hid (seO u = -(u / 2)) := seO_even u c
    have c' : (u % 2 == 1) = false := by simpa using c
    go_enter Tryd.func117, Tryd.ntmps117
    go_wp2_with (go_at_call 47; refine (in_any _ _ _ _).mono ?_; rintro e w1 ⟨rfl, hw⟩; subst w1)
    go_ret2
    exact ⟨by rw [HF.out]; rfl, rfl⟩
theorem specOpen_no (u : Int) (w : World) (h : u < 0 ∨ 1000000 < u) :
    Calls Tryd.prog 117 #[.int .i64 u] w fun e w' => e = .returned (.tuple #[.int .i64 0, .bool false]) ∧ w' = w := by
  have hin : (decide ((0 : Int) ≤ u) && decide (u ≤ 1000000)) = false := by simp; omega
  clear h
  go_enter Tryd.func117, Tryd.ntmps117
  go_wp2_with (go_at_call 47; refine (in_any _ _ _ _).mono ?_; rintro e w1 ⟨rfl, hw⟩; subst w1)
  go_ret2
  exact ⟨rfl, rfl⟩
end Go.Proofs.YtlejfkjanllgbaaDoor
