/-
  The walks of UeRow, SeRow, UeSize and SeSize, of impl and of spec.
-/
import Derived.Test.YtlejfkjanllgbaaGreatDoorCountImpl
import Derived.Test.YtlejfkjanllgbaaGreatDoorCountSpec
namespace Go.Proofs.YtlejfkjanllgbaaGreatDoor
open Go.RowKit
set_option linter.unusedVariables false
set_option maxRecDepth 20000

theorem folds_ue (n : Int) (h : 0 ≤ n ∧ n ≤ 1000000) : Folds 0 n n := fun w => implPlain n w h
theorem folds_ue_no (n : Int) (h : n < 0 ∨ 1000000 < n) : FoldsNot 0 n := fun w => implPlain_no n w h
theorem folds_se (n : Int) (h : -500000 ≤ n ∧ n ≤ 500000) : Folds 1 n (seF n) := fun w => implFold n w h
theorem folds_se_no (n : Int) (h : n < -500000 ∨ 500000 < n) : FoldsNot 1 n := fun w => implFold_no n w h

theorem specSe (n : Int) (w : World) (h : -500000 ≤ n ∧ n ≤ 500000) :
    Calls Tryz.prog 73 #[.int .i64 n] w fun e w' => e = .returned (.string (ueS (seF n))) ∧ Below w.heap.size w w' := by
  have HN : Hid (-500000 ≤ n ∧ n ≤ 500000) := h
  obtain ⟨b0, b1⟩ := seF_bd n h
  clear h
  go_enter Tryz.func73, Tryz.ntmps73
  go_wp2_with (first
    | (go_at_call 102; refine (specFold n _ HN.out).mono ?_; rintro e w1 ⟨rfl, hw⟩; subst w1)
    | (go_at_call 72; refine (specUe _ _ b0 b1).mono ?_; rintro e w2 ⟨rfl, hb⟩))
  go_ret
  exact ⟨rfl, hb⟩

theorem implUeRow (n : Int) (w : World) (h : 0 ≤ n ∧ n ≤ 1000000) :
    Calls Tryz.prog 47 #[.int .i64 n] w fun e w' => e = .returned (.tuple #[.string (ueS n), .bool true]) ∧ Below w.heap.size w w' := by
  have HN : Hid (0 ≤ n ∧ n ≤ 1000000) := h
  clear h
  go_enter Tryz.func47, Tryz.ntmps47
  go_wp2_with (go_at_call 67; refine (implRow _ n n _ (folds_ue n HN.out) HN.out.1 HN.out.2).mono ?_; rintro e w1 ⟨rfl, hb⟩)
  go_ret2
  exact ⟨rfl, hb⟩
theorem implUeRow_no (n : Int) (w : World) (h : n < 0 ∨ 1000000 < n) :
    Calls Tryz.prog 47 #[.int .i64 n] w fun e w' => e = .returned (.tuple #[.string ⟨#[]⟩, .bool false]) ∧ w' = w := by
  have HN : Hid (n < 0 ∨ 1000000 < n) := h
  clear h
  go_enter Tryz.func47, Tryz.ntmps47
  go_wp2_with (go_at_call 67; refine (implRow_no _ n _ (folds_ue_no n HN.out)).mono ?_; rintro e w1 ⟨rfl, hw⟩; subst w1)
  go_ret2
  exact ⟨rfl, rfl⟩
theorem implSeRow (n : Int) (w : World) (h : -500000 ≤ n ∧ n ≤ 500000) :
    Calls Tryz.prog 68 #[.int .i64 n] w fun e w' => e = .returned (.tuple #[.string (ueS (seF n)), .bool true]) ∧ Below w.heap.size w w' := by
  have HN : Hid (-500000 ≤ n ∧ n ≤ 500000) := h
  clear h
  go_enter Tryz.func68, Tryz.ntmps68
  go_wp2_with (go_at_call 67; refine (implRow _ n (seF n) _ (folds_se n HN.out) (seF_bd n HN.out).1 (seF_bd n HN.out).2).mono ?_; rintro e w1 ⟨rfl, hb⟩)
  go_ret2
  exact ⟨rfl, hb⟩
theorem implSeRow_no (n : Int) (w : World) (h : n < -500000 ∨ 500000 < n) :
    Calls Tryz.prog 68 #[.int .i64 n] w fun e w' => e = .returned (.tuple #[.string ⟨#[]⟩, .bool false]) ∧ w' = w := by
  have HN : Hid (n < -500000 ∨ 500000 < n) := h
  clear h
  go_enter Tryz.func68, Tryz.ntmps68
  go_wp2_with (go_at_call 67; refine (implRow_no _ n _ (folds_se_no n HN.out)).mono ?_; rintro e w1 ⟨rfl, hw⟩; subst w1)
  go_ret2
  exact ⟨rfl, rfl⟩
end Go.Proofs.YtlejfkjanllgbaaGreatDoor
