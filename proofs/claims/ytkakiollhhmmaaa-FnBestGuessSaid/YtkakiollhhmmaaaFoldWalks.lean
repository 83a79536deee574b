/-
  The walks of impl's countKind.fold and countKind.open, and of impl.FoldSe and impl.OpenSe.
-/
import Derived.Test.YtkakiollhhmmaaaRows
import Derived.Test.YtkakiollhhmmaaaFoldMath
import Derived.WalkKit
import Derived.WalkSpells
import Derived.StillTactics
namespace Go.Proofs.Ytkakiollhhmmaaa
open Go.RowKit
set_option linter.unusedVariables false
set_option maxRecDepth 20000

theorem implFold (n : Int) (w : World) (h : -500000 ≤ n ∧ n ≤ 500000) :
    Calls Try.prog 58 #[.int .i64 1, .int .i64 n] w fun e w' => e = .returned (.tuple #[.int .i64 (seF n), .bool true]) ∧ w' = w := by
  obtain ⟨h0, h1⟩ := h
  by_cases c : 0 < n
  · have HF : Hid (seF n = 2 * n - 1) := seF_pos n c
    go_enter Try.func58, Try.ntmps58
    go_wp2
    go_ret2
    exact ⟨by rw [HF.out]; rfl, rfl⟩
  · have HF : Hid (seF n = -2 * n) := seF_neg n c
    go_enter Try.func58, Try.ntmps58
    go_wp2
    go_ret2
    exact ⟨by rw [HF.out]; rfl, rfl⟩
theorem implFold_no (n : Int) (w : World) (h : n < -500000 ∨ 500000 < n) :
    Calls Try.prog 58 #[.int .i64 1, .int .i64 n] w fun e w' => e = .returned (.tuple #[.int .i64 0, .bool false]) ∧ w' = w := by
  rcases h with c | c
  all_goals
    go_enter Try.func58, Try.ntmps58
    go_wp2
    go_ret2
    exact ⟨rfl, rfl⟩
theorem implPlain (n : Int) (w : World) (h : 0 ≤ n ∧ n ≤ 1000000) :
    Calls Try.prog 58 #[.int .i64 0, .int .i64 n] w fun e w' => e = .returned (.tuple #[.int .i64 n, .bool true]) ∧ w' = w := by
  obtain ⟨h0, h1⟩ := h
  go_enter Try.func58, Try.ntmps58
  go_wp2
  go_ret2
  exact ⟨rfl, rfl⟩
theorem implPlain_no (n : Int) (w : World) (h : n < 0 ∨ 1000000 < n) :
    Calls Try.prog 58 #[.int .i64 0, .int .i64 n] w fun e w' => e = .returned (.tuple #[.int .i64 0, .bool false]) ∧ w' = w := by
  rcases h with c | c
  all_goals
    go_enter Try.func58, Try.ntmps58
    go_wp2
    go_ret2
    exact ⟨rfl, rfl⟩

end Go.Proofs.Ytkakiollhhmmaaa
