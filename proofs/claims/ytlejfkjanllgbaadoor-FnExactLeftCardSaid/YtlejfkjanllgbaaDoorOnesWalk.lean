/-
  The walks of bits.OnesCount, of three figures.
-/
import Derived.Test.YtlejfkjanllgbaaDoorSignMath
import Derived.Test.YtlejfkjanllgbaaDoorInKit
import Derived.KernelRfl
namespace Go.Proofs.YtlejfkjanllgbaaDoor
open Go.RowKit
set_option linter.unusedVariables false
set_option maxRecDepth 20000

/-- How many of the three lowest figures are ones. -/
def pop3 (n : Nat) : Nat := n % 2 + n / 2 % 2 + n / 4 % 2
theorem i64_and (i k : Nat) (hi : i < 8) (hk : k < 8) : bits BinOp.and IntKind.i64 (i : Int) (k : Int) = ((i &&& k : Nat) : Int) := by
  have h : ∀ a b : Fin 8, bits BinOp.and IntKind.i64 (a.val : Int) (b.val : Int) = ((a.val &&& b.val : Nat) : Int) := by decide
  exact h ⟨i, hi⟩ ⟨k, hk⟩
set_option maxHeartbeats 1600000 in
theorem ones64 (n : Nat) (w : World) (hn : n < 8) : Calls Tryd.prog 133 #[.int .u64 (n : Int)] w fun e w' => e = .returned (.int .i64 (pop3 n : Int)) ∧ w' = w := by
  have hc : n = 0 ∨ n = 1 ∨ n = 2 ∨ n = 3 ∨ n = 4 ∨ n = 5 ∨ n = 6 ∨ n = 7 := by omega
  rcases hc with rfl | rfl | rfl | rfl | rfl | rfl | rfl | rfl
  all_goals
    go_enter Tryd.func133, Tryd.ntmps133
    go_wp2
    go_ret
    exact ⟨by kernel_rfl, rfl⟩
set_option maxHeartbeats 400000 in
theorem ones_any (n : Nat) (w : World) (hn : n < 8) : Calls Tryd.prog 131 #[.int .u64 (n : Int)] w fun e w' => e = .returned (.int .i64 (pop3 n : Int)) ∧ w' = w := by
  go_enter Tryd.func131, Tryd.ntmps131
  go_wp2_with (go_at_call 133; refine (ones64 n _ hn).mono ?_; rintro e w1 ⟨rfl, hw⟩; subst w1)
  go_ret
  exact ⟨rfl, rfl⟩
end Go.Proofs.YtlejfkjanllgbaaDoor
