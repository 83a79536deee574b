/-
  The walks of UeRow, SeRow, UeSize and SeSize, of impl and of spec.
-/
import Derived.Test.YtkakiollhhmmaaaCountImpl
import Derived.Test.YtkakiollhhmmaaaCountSpec
namespace Go.Proofs.Ytkakiollhhmmaaa
open Go.RowKit
set_option linter.unusedVariables false
set_option maxRecDepth 20000

theorem folds_ue (n : Int) (h : 0 ≤ n ∧ n ≤ 1000000) : Folds 0 n n := fun w => implPlain n w h
theorem folds_ue_no (n : Int) (h : n < 0 ∨ 1000000 < n) : FoldsNot 0 n := fun w => implPlain_no n w h
theorem folds_se (n : Int) (h : -500000 ≤ n ∧ n ≤ 500000) : Folds 1 n (seF n) := fun w => implFold n w h
theorem folds_se_no (n : Int) (h : n < -500000 ∨ 500000 < n) : FoldsNot 1 n := fun w => implFold_no n w h

theorem implUeSize (n : Int) (w : World) (h : 0 ≤ n ∧ n ≤ 1000000) :
    Calls Try.prog 13 #[.int .i64 n] w fun e w' => e = .returned (.int .i64 (2 * (wid (n + 1) : Int) - 1)) ∧ w' = w := by
  have HN : Hid (0 ≤ n ∧ n ≤ 1000000) := h
  clear h
  go_enter Try.func13, Try.ntmps13
  go_wp2_with (go_at_call 34; refine (implSize _ n n _ (folds_ue n HN.out) HN.out.1 HN.out.2).mono ?_; rintro e w1 ⟨rfl, hw⟩; subst w1)
  go_ret
  exact ⟨rfl, rfl⟩
theorem implUeSize_no (n : Int) (w : World) (h : n < 0 ∨ 1000000 < n) :
    Calls Try.prog 13 #[.int .i64 n] w fun e w' => e = .returned (.int .i64 0) ∧ w' = w := by
  have HN : Hid (n < 0 ∨ 1000000 < n) := h
  clear h
  go_enter Try.func13, Try.ntmps13
  go_wp2_with (go_at_call 34; refine (implSize_no _ n _ (folds_ue_no n HN.out)).mono ?_; rintro e w1 ⟨rfl, hw⟩; subst w1)
  go_ret
  exact ⟨rfl, rfl⟩

theorem specUeRow (n : Int) (w : World) (h : 0 ≤ n ∧ n ≤ 1000000) :
    Calls Try.prog 51 #[.int .i64 n] w fun e w' => e = .returned (.tuple #[.string (ueS n), .bool true]) ∧ Below w.heap.size w w' := by
  have HN : Hid (0 ≤ n ∧ n ≤ 1000000) := h
  have hin : (decide ((0 : Int) ≤ n) && decide (n ≤ 1000000)) = true := by simp; omega
  clear h
  go_enter Try.func51, Try.ntmps51
  go_wp2_with (first
    | (go_at_call 42; refine (in_any _ _ _ _).mono ?_; rintro e w1 ⟨rfl, hw⟩; subst w1)
    | (go_at_call 57; refine (specUe n _ HN.out.1 HN.out.2).mono ?_; rintro e w2 ⟨rfl, hb⟩))
  go_ret2
  exact ⟨rfl, hb⟩
theorem specUeRow_no (n : Int) (w : World) (h : n < 0 ∨ 1000000 < n) :
    Calls Try.prog 51 #[.int .i64 n] w fun e w' => e = .returned (.tuple #[.string ⟨#[]⟩, .bool false]) ∧ w' = w := by
  have hin : (decide ((0 : Int) ≤ n) && decide (n ≤ 1000000)) = false := by simp; omega
  clear h
  go_enter Try.func51, Try.ntmps51
  go_wp2_with (go_at_call 42; refine (in_any _ _ _ _).mono ?_; rintro e w1 ⟨rfl, hw⟩; subst w1)
  go_ret2
  exact ⟨rfl, rfl⟩
theorem specUeSize (n : Int) (w : World) (h : 0 ≤ n ∧ n ≤ 1000000) :
    Calls Try.prog 31 #[.int .i64 n] w fun e w' => e = .returned (.int .i64 (2 * (wid (n + 1) : Int) - 1)) ∧ Below w.heap.size w w' := by
  have HN : Hid (0 ≤ n ∧ n ≤ 1000000) := h
  have HS : Hid (((ueS n).size : Int) = 2 * (wid (n + 1) : Int) - 1) := by
    show _ = _
    have b : 0 ≤ n ∧ n ≤ 1000000 := ⟨h.1, h.2⟩
    rw [ueS_size _ b.1 b.2]
    have := wid_pow (n + 1) (by omega) (by omega)
    omega
  clear h
  go_enter Try.func31, Try.ntmps31
  go_wp2_with (go_at_call 51; refine (specUeRow n _ HN.out).mono ?_; rintro e w2 ⟨rfl, hb⟩)
  go_ret
  exact ⟨by rw [← HS.out]; rfl, hb⟩
theorem specUeSize_no (n : Int) (w : World) (h : n < 0 ∨ 1000000 < n) :
    Calls Try.prog 31 #[.int .i64 n] w fun e w' => e = .returned (.int .i64 0) ∧ w' = w := by
  have HN : Hid (n < 0 ∨ 1000000 < n) := h
  clear h
  go_enter Try.func31, Try.ntmps31
  go_wp2_with (go_at_call 51; refine (specUeRow_no n _ HN.out).mono ?_; rintro e w1 ⟨rfl, hw⟩; subst w1)
  go_ret
  exact ⟨rfl, rfl⟩

end Go.Proofs.Ytkakiollhhmmaaa
