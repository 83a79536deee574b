/-
  The walks of impl's countKind.fold and countKind.open, and of impl.FoldSe and impl.OpenSe.
-/
import Derived.Test.YtlejfkjanllgbaaDoorRows
import Derived.Test.YtlejfkjanllgbaaDoorFoldMath
import Derived.WalkKit
import Derived.WalkSpells
import Derived.StillTactics
namespace Go.Proofs.YtlejfkjanllgbaaDoor
open Go.RowKit
set_option linter.unusedVariables false
set_option maxRecDepth 20000

theorem implOpen (u : Int) (w : World) (h : 0 ≤ u ∧ u ≤ 1000000) :
    Calls Tryd.prog 120 #[.int .i64 1, .int .i64 u] w fun e w' => e = .returned (.tuple #[.int .i64 (seO u), .bool true]) ∧ w' = w := by
  obtain ⟨h0, h1⟩ := h
  by_cases c : u % 2 = 1
  · have HF : Hid (seO u = (u + 1) / 2) := seO_odd u c
    go_enter Tryd.func120, Tryd.ntmps120
    go_wp2
    go_ret2
    exact ⟨by rw [HF.out]; rfl, rfl⟩
  · obtain ⟨v, hv⟩ : ∃ v, u = 2 * v := ⟨u / 2, by omega⟩
    have HF : Hid (seO u = -v) := by show _ = _; rw [seO_even u c]; omega
    have c' : (u % 2 == 1) = false := by simpa using c
    go_enter Tryd.func120, Tryd.ntmps120
    go_wp2
    go_ret2
    exact ⟨by rw [HF.out]; rfl, rfl⟩
theorem implOpen_no (u : Int) (w : World) (h : u < 0 ∨ 1000000 < u) :
    Calls Tryd.prog 120 #[.int .i64 1, .int .i64 u] w fun e w' => e = .returned (.tuple #[.int .i64 0, .bool false]) ∧ w' = w := by
  rcases h with c | c
  all_goals
    go_enter Tryd.func120, Tryd.ntmps120
    go_wp2
    go_ret2
    exact ⟨rfl, rfl⟩
theorem implSame (u : Int) (w : World) (h : 0 ≤ u ∧ u ≤ 1000000) :
    Calls Tryd.prog 120 #[.int .i64 0, .int .i64 u] w fun e w' => e = .returned (.tuple #[.int .i64 u, .bool true]) ∧ w' = w := by
  obtain ⟨h0, h1⟩ := h
  go_enter Tryd.func120, Tryd.ntmps120
  go_wp2
  go_ret2
  exact ⟨rfl, rfl⟩
theorem implSame_no (u : Int) (w : World) (h : u < 0 ∨ 1000000 < u) :
    Calls Tryd.prog 120 #[.int .i64 0, .int .i64 u] w fun e w' => e = .returned (.tuple #[.int .i64 0, .bool false]) ∧ w' = w := by
  rcases h with c | c
  all_goals
    go_enter Tryd.func120, Tryd.ntmps120
    go_wp2
    go_ret2
    exact ⟨rfl, rfl⟩

end Go.Proofs.YtlejfkjanllgbaaDoor
