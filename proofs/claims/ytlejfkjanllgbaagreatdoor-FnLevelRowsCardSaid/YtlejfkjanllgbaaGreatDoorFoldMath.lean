/-
  Plain facts on numbers with signs: how they are folded and opened.
-/
import Derived.WalkKit
namespace Go.Proofs.YtlejfkjanllgbaaGreatDoor
set_option linter.unusedVariables false
set_option maxRecDepth 20000

def seF (n : Int) : Int := if 0 < n then 2 * n - 1 else -2 * n
def seO (u : Int) : Int := if u % 2 = 1 then (u + 1) / 2 else -(u / 2)
theorem seF_pos (n : Int) (h : 0 < n) : seF n = 2 * n - 1 := by unfold seF; rw [if_pos h]
theorem seF_neg (n : Int) (h : ¬ 0 < n) : seF n = -2 * n := by unfold seF; rw [if_neg h]
theorem seO_odd (u : Int) (h : u % 2 = 1) : seO u = (u + 1) / 2 := by unfold seO; rw [if_pos h]
theorem seO_even (u : Int) (h : ¬ u % 2 = 1) : seO u = -(u / 2) := by unfold seO; rw [if_neg h]
theorem seF_bd (n : Int) (h : -500000 ≤ n ∧ n ≤ 500000) : 0 ≤ seF n ∧ seF n ≤ 1000000 := by
  unfold seF; split <;> omega
theorem seO_seF (n : Int) : seO (seF n) = n := by
  unfold seF seO; split <;> split <;> omega
end Go.Proofs.YtlejfkjanllgbaaGreatDoor
