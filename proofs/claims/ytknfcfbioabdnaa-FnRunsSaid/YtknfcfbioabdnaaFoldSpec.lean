/-
  The walks of spec.FoldSe and spec.OpenSe.
-/
import Derived.Test.YtknfcfbioabdnaaFoldMath
import Derived.Test.YtknfcfbioabdnaaInAny
namespace Go.Proofs.Ytknfcfbioabdnaa
open Go.RowKit
set_option linter.unusedVariables false
set_option maxRecDepth 20000

theorem specFold (n : Int) (w : World) (h : -500000 ≤ n ∧ n ≤ 500000) :
    Calls Try.prog 79 #[.int .i64 n] w fun e w' => e = .returned (.tuple #[.int .i64 (seF n), .bool true]) ∧ w' = w := by
  have hin : (decide ((-500000 : Int) ≤ n) && decide (n ≤ 500000)) = true := by simp; omega
  obtain ⟨h0, h1⟩ := h
  by_cases c : 0 < n
  · have HF : Hid (seF n = 2 * n - 1) := seF_pos n c
    go_enter Try.func79, Try.ntmps79
    go_wp2_with (go_at_call 50; refine (in_any _ _ _ _).mono ?_; rintro e w1 ⟨rfl, hw⟩; subst w1)
    go_ret2
    exact ⟨by rw [HF.out]; rfl, rfl⟩
  · have HF : Hid (seF n = -2 * n) := seF_neg n c
    go_enter Try.func79, Try.ntmps79
    go_wp2_with (go_at_call 50; refine (in_any _ _ _ _).mono ?_; rintro e w1 ⟨rfl, hw⟩; subst w1)
    go_ret2
    exact ⟨by rw [HF.out]; rfl, rfl⟩
theorem specFold_no (n : Int) (w : World) (h : n < -500000 ∨ 500000 < n) :
    Calls Try.prog 79 #[.int .i64 n] w fun e w' => e = .returned (.tuple #[.int .i64 0, .bool false]) ∧ w' = w := by
  have hin : (decide ((-500000 : Int) ≤ n) && decide (n ≤ 500000)) = false := by simp; omega
  clear h
  go_enter Try.func79, Try.ntmps79
  go_wp2_with (go_at_call 50; refine (in_any _ _ _ _).mono ?_; rintro e w1 ⟨rfl, hw⟩; subst w1)
  go_ret2
  exact ⟨rfl, rfl⟩
theorem specOpen (u : Int) (w : World) (h : 0 ≤ u ∧ u ≤ 1000000) :
    Calls Try.prog 81 #[.int .i64 u] w fun e w' => e = .returned (.tuple #[.int .i64 (seO u), .bool true]) ∧ w' = w := by
  have hin : (decide ((0 : Int) ≤ u) && decide (u ≤ 1000000)) = true := by simp; omega
  obtain ⟨h0, h1⟩ := h
  by_cases c : u % 2 = 1
  · have HF : Hid (seO u = (u + 1) / 2) := seO_odd u c
    go_enter Try.func81, Try.ntmps81
    go_wp2_with (go_at_call 50; refine (in_any _ _ _ _).mono ?_; rintro e w1 ⟨rfl, hw⟩; subst w1)
    go_ret2
    exact ⟨by rw [HF.out]; rfl, rfl⟩
  · have HF : Hid (seO u = -(u / 2)) := seO_even u c
    have c' : (u % 2 == 1) = false := by simpa using c
    go_enter Try.func81, Try.ntmps81
    go_wp2_with (go_at_call 50; refine (in_any _ _ _ _).mono ?_; rintro e w1 ⟨rfl, hw⟩; subst w1)
    go_ret2
    exact ⟨by rw [HF.out]; rfl, rfl⟩
theorem specOpen_no (u : Int) (w : World) (h : u < 0 ∨ 1000000 < u) :
    Calls Try.prog 81 #[.int .i64 u] w fun e w' => e = .returned (.tuple #[.int .i64 0, .bool false]) ∧ w' = w := by
  have hin : (decide ((0 : Int) ≤ u) && decide (u ≤ 1000000)) = false := by simp; omega
  clear h
  go_enter Try.func81, Try.ntmps81
  go_wp2_with (go_at_call 50; refine (in_any _ _ _ _).mono ?_; rintro e w1 ⟨rfl, hw⟩; subst w1)
  go_ret2
  exact ⟨rfl, rfl⟩
end Go.Proofs.Ytknfcfbioabdnaa
