/-
  spec.ReadRuns.
-/
import Derived.Test.YtlejfkjanllgbaaDoorRunBack
namespace Go.Proofs.YtlejfkjanllgbaaDoor
open Go.RowKit
set_option linter.unusedVariables false
set_option maxRecDepth 20000

/-- What is read of a row at a place, of a list of n numbers: nothing where one of the three is not right. -/
def rdSt (F : Nat → Option (Int × Nat)) (s : ByteArray) (a n : Int) : RSt := if placeB s a = true ∧ (n = 16 ∨ n = 64) then readR F n.toNat a.toNat else none
theorem rdSt_yes {F : Nat → Option (Int × Nat)} {s : ByteArray} {p n : Nat} (hp : p ≤ s.size) (hr : rowOkB s = true) (hn : n = 16 ∨ n = 64) : rdSt F s (p : Int) (n : Int) = readR F n p := by
  unfold rdSt
  rw [if_pos ⟨placeB_yes s p (by omega) hr, by omega⟩]
  rfl
theorem rdSt_no {F : Nat → Option (Int × Nat)} {s : ByteArray} {a n : Int} (h : ¬ (placeB s a = true ∧ (n = 16 ∨ n = 64))) : rdSt F s a n = none := if_neg h

end Go.Proofs.YtlejfkjanllgbaaDoor
