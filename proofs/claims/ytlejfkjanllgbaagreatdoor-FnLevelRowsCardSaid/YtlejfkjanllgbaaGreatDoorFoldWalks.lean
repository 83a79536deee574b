/-
  The walks of impl's countKind.fold and countKind.open, and of impl.FoldSe and impl.OpenSe.
-/
import Derived.Test.YtlejfkjanllgbaaGreatDoorRows
import Derived.Test.YtlejfkjanllgbaaGreatDoorFoldMath
import Derived.WalkKit
import Derived.WalkSpells
import Derived.StillTactics
namespace Go.Proofs.YtlejfkjanllgbaaGreatDoor
open Go.RowKit
set_option linter.unusedVariables false
set_option maxRecDepth 20000

theorem implFold (n : Int) (w : World) (h : -500000 ≤ n ∧ n ≤ 500000) :
    Calls Tryz.prog 110 #[.int .i64 1, .int .i64 n] w fun e w' => e = .returned (.tuple #[.int .i64 (seF n), .bool true]) ∧ w' = w := by
  obtain ⟨h0, h1⟩ := h
  by_cases c : 0 < n
  · have HF : Hid (seF n = 2 * n - 1) := seF_pos n c
    go_enter Tryz.func110, Tryz.ntmps110
    go_wp2
    go_ret2
    exact ⟨by rw [HF.out]; rfl, rfl⟩
  · have HF : Hid (seF n = -2 * n) := seF_neg n c
    go_enter Tryz.func110, Tryz.ntmps110
    go_wp2
    go_ret2
    exact ⟨by rw [HF.out]; rfl, rfl⟩
theorem implFold_no (n : Int) (w : World) (h : n < -500000 ∨ 500000 < n) :
    Calls Tryz.prog 110 #[.int .i64 1, .int .i64 n] w fun e w' => e = .returned (.tuple #[.int .i64 0, .bool false]) ∧ w' = w := by
  rcases h with c | c
  all_goals
    go_enter Tryz.func110, Tryz.ntmps110
    go_wp2
    go_ret2
    exact ⟨rfl, rfl⟩
theorem implPlain (n : Int) (w : World) (h : 0 ≤ n ∧ n ≤ 1000000) :
    Calls Tryz.prog 110 #[.int .i64 0, .int .i64 n] w fun e w' => e = .returned (.tuple #[.int .i64 n, .bool true]) ∧ w' = w := by
  obtain ⟨h0, h1⟩ := h
  go_enter Tryz.func110, Tryz.ntmps110
  go_wp2
  go_ret2
  exact ⟨rfl, rfl⟩
theorem implPlain_no (n : Int) (w : World) (h : n < 0 ∨ 1000000 < n) :
    Calls Tryz.prog 110 #[.int .i64 0, .int .i64 n] w fun e w' => e = .returned (.tuple #[.int .i64 0, .bool false]) ∧ w' = w := by
  rcases h with c | c
  all_goals
    go_enter Tryz.func110, Tryz.ntmps110
    go_wp2
    go_ret2
    exact ⟨rfl, rfl⟩

theorem implOpen (u : Int) (w : World) (h : 0 ≤ u ∧ u ≤ 1000000) :
    Calls Tryz.prog 100 #[.int .i64 1, .int .i64 u] w fun e w' => e = .returned (.tuple #[.int .i64 (seO u), .bool true]) ∧ w' = w := by
  obtain ⟨h0, h1⟩ := h
  by_cases c : u % 2 = 1
  · have HF : Hid (seO u = (u + 1) / 2) := seO_odd u c
    go_enter Tryz.func100, Tryz.ntmps100
    go_wp2
    go_ret2
    exact ⟨by rw [HF.out]; rfl, rfl⟩
  · obtain ⟨v, hv⟩ : ∃ v, u = 2 * v := ⟨u / 2, by omega⟩
    have HF : Hid (seO u = -v) := by show _ = _; rw [seO_even u c]; omega
    have c' : (u % 2 == 1) = false := by simpa using c
    go_enter Tryz.func100, Tryz.ntmps100
    go_wp2
    go_ret2
    exact ⟨by rw [HF.out]; rfl, rfl⟩
theorem implOpen_no (u : Int) (w : World) (h : u < 0 ∨ 1000000 < u) :
    Calls Tryz.prog 100 #[.int .i64 1, .int .i64 u] w fun e w' => e = .returned (.tuple #[.int .i64 0, .bool false]) ∧ w' = w := by
  rcases h with c | c
  all_goals
    go_enter Tryz.func100, Tryz.ntmps100
    go_wp2
    go_ret2
    exact ⟨rfl, rfl⟩
theorem implSame (u : Int) (w : World) (h : 0 ≤ u ∧ u ≤ 1000000) :
    Calls Tryz.prog 100 #[.int .i64 0, .int .i64 u] w fun e w' => e = .returned (.tuple #[.int .i64 u, .bool true]) ∧ w' = w := by
  obtain ⟨h0, h1⟩ := h
  go_enter Tryz.func100, Tryz.ntmps100
  go_wp2
  go_ret2
  exact ⟨rfl, rfl⟩
theorem implSame_no (u : Int) (w : World) (h : u < 0 ∨ 1000000 < u) :
    Calls Tryz.prog 100 #[.int .i64 0, .int .i64 u] w fun e w' => e = .returned (.tuple #[.int .i64 0, .bool false]) ∧ w' = w := by
  rcases h with c | c
  all_goals
    go_enter Tryz.func100, Tryz.ntmps100
    go_wp2
    go_ret2
    exact ⟨rfl, rfl⟩

end Go.Proofs.YtlejfkjanllgbaaGreatDoor
