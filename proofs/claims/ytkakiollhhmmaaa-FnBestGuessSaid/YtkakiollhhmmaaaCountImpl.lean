/-
  The walks of impl's countKind.figures, size and row: the row of a counted number, whatever its kind.
-/
import Derived.Test.YtkakiollhhmmaaaShelf
import Derived.Test.YtkakiollhhmmaaaCountMath
import Derived.Test.YtkakiollhhmmaaaFixImpl
import Derived.Test.YtkakiollhhmmaaaFoldWalks
namespace Go.Proofs.Ytkakiollhhmmaaa
open Go.RowKit
set_option linter.unusedVariables false
set_option maxRecDepth 20000

/-- A kind folds n to u. -/
abbrev Folds (k n u : Int) : Prop := ∀ w : World, Calls Try.prog 58 #[.int .i64 k, .int .i64 n] w fun e w' => e = .returned (.tuple #[.int .i64 u, .bool true]) ∧ w' = w
/-- A kind has no row for n. -/
abbrev FoldsNot (k n : Int) : Prop := ∀ w : World, Calls Try.prog 58 #[.int .i64 k, .int .i64 n] w fun e w' => e = .returned (.tuple #[.int .i64 0, .bool false]) ∧ w' = w

theorem len_any (u : Int) (w : World) (h0 : 0 ≤ u) (h1 : u ≤ 1000001) :
    Calls Try.prog 59 #[.int .u64 u] w fun e w' => e = .returned (.int .i64 (wid u)) ∧ w' = w := Try.bits_Len u w h0 (by omega)
set_option maxHeartbeats 1000000 in
theorem implFig (k n u : Int) (w : World) (hf : Folds k n u) (h0 : 0 ≤ u) (h1 : u ≤ 1000000) :
    Calls Try.prog 53 #[.int .i64 k, .int .i64 n] w fun e w' => e = .returned (.tuple #[.int .i64 (u + 1), .int .i64 (wid (u + 1))]) ∧ w' = w := by
  have HF : Hid (Folds k n u) := hf
  clear hf
  go_enter Try.func53, Try.ntmps53
  go_wp2_with (first
    | (go_at_call 58; refine (HF.out _).mono ?_; rintro e w1 ⟨rfl, hw⟩; subst w1)
    | (go_at_call 59; refine (len_any _ _ (by omega) (by omega)).mono ?_; rintro e w1 ⟨rfl, hw⟩; subst w1))
  go_ret2
  exact ⟨rfl, rfl⟩
theorem implFig_no (k n : Int) (w : World) (hf : FoldsNot k n) :
    Calls Try.prog 53 #[.int .i64 k, .int .i64 n] w fun e w' => e = .returned (.tuple #[.int .i64 0, .int .i64 0]) ∧ w' = w := by
  have HF : Hid (FoldsNot k n) := hf
  clear hf
  go_enter Try.func53, Try.ntmps53
  go_wp2_with (go_at_call 58; refine (HF.out _).mono ?_; rintro e w1 ⟨rfl, hw⟩; subst w1)
  go_ret2
  exact ⟨rfl, rfl⟩

set_option maxHeartbeats 1000000 in
theorem implSize (k n u : Int) (w : World) (hf : Folds k n u) (h0 : 0 ≤ u) (h1 : u ≤ 1000000) :
    Calls Try.prog 34 #[.int .i64 k, .int .i64 n] w fun e w' => e = .returned (.int .i64 (2 * (wid (u + 1) : Int) - 1)) ∧ w' = w := by
  have HF : Hid (Folds k n u) := hf
  clear hf
  obtain ⟨l1, l20, _, _⟩ := wid_pow (u + 1) (by omega) (by omega)
  have hg := implFig k n u w HF.out h0 h1
  generalize wid (u + 1) = m at hg l1 l20 ⊢
  have HG : Hid (Calls Try.prog 53 #[.int .i64 k, .int .i64 n] w fun e w' => e = .returned (.tuple #[.int .i64 (u + 1), .int .i64 (m : Int)]) ∧ w' = w) := hg
  clear hg
  have m1 : (1 : Int) ≤ (m : Int) := by omega
  have m2 : (m : Int) ≤ 20 := by omega
  go_enter Try.func34, Try.ntmps34
  go_wp2_with (go_at_call 53; refine HG.out.mono ?_; rintro e w1 ⟨rfl, hw⟩; subst w1)
  go_ret
  refine ⟨?_, rfl⟩
  show Ending.returned (.int .i64 (max 0 (2 * (m : Int) - 1))) = _
  rw [Int.max_eq_right (by omega)]
theorem implSize_no (k n : Int) (w : World) (hf : FoldsNot k n) :
    Calls Try.prog 34 #[.int .i64 k, .int .i64 n] w fun e w' => e = .returned (.int .i64 0) ∧ w' = w := by
  have HF : Hid (FoldsNot k n) := hf
  clear hf
  go_enter Try.func34, Try.ntmps34
  go_wp2_with (go_at_call 53; refine (implFig_no k n w HF.out).mono ?_; rintro e w1 ⟨rfl, hw⟩; subst w1)
  go_ret
  exact ⟨rfl, rfl⟩

end Go.Proofs.Ytkakiollhhmmaaa
