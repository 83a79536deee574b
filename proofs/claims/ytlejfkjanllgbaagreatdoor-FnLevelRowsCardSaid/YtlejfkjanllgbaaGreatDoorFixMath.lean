/-
  Plain facts on numbers in signs: the signs of a number, the highest first.
-/
import Derived.WalkKit
import Derived.Laws.BytesArg
import Derived.Laws.OwnMore
namespace Go.Proofs.YtlejfkjanllgbaaGreatDoor
open Go.RowKit
set_option linter.unusedVariables false
set_option maxRecDepth 20000

def fixAt (n : Int) (w i : Nat) : Int := n / 2 ^ (w - 1 - i) % 2
def fixL (n : Int) (w : Nat) : List Int := (List.range w).map fun i => 48 + fixAt n w i
theorem fixL_length (n : Int) (w : Nat) : (fixL n w).length = w := by simp [fixL]
theorem fixAt_bd (n : Int) (w i : Nat) : 0 ≤ fixAt n w i ∧ fixAt n w i < 2 := by unfold fixAt; omega
theorem range_set {α : Type} (w k : Nat) (f g : Nat → α) (h : ∀ i, i ≠ k → f i = g i) : ((List.range w).map f).set k (g k) = (List.range w).map g := by
  apply List.ext_getElem?
  intro i
  rw [List.getElem?_set]
  by_cases hi : k = i
  · subst hi
    by_cases hk : k < w
    · simp [hk]
    · simp [hk]
  · by_cases hw : i < w
    · simp [hi, hw, h i (fun e => hi e.symm)]
    · simp [hi, hw]
theorem made_one (v : Value) (n : Nat) (hv : v.cells = #[v]) : (madeCells v.cells (n * 1)).toList = (List.range n).map fun _ => v := by
  rw [hv]
  rw [toList_madeCells_one, Nat.mul_one]
  simp [List.map_const']
theorem half_pow (n : Int) (k : Nat) : n / 2 ^ k / 2 = n / 2 ^ (k + 1) := by
  rw [Int.ediv_ediv_of_nonneg (Int.le_of_lt (Int.pow_pos (by decide)))]; rfl
theorem div_pow_bd (n : Int) (k : Nat) (h0 : 0 ≤ n) : 0 ≤ n / 2 ^ k ∧ n / 2 ^ k ≤ n := by
  have hp : (0 : Int) < 2 ^ k := Int.pow_pos (by decide)
  exact ⟨Int.ediv_nonneg h0 (Int.le_of_lt hp), Int.ediv_le_self _ h0⟩
theorem pow_bd (k : Nat) (h : k ≤ 30) : (1 : Int) ≤ 2 ^ k ∧ (2 : Int) ^ k ≤ 1073741824 := by
  refine ⟨Int.pow_pos (by decide), ?_⟩
  have := Nat.pow_le_pow_right (n := 2) (by decide) h
  have e : ((2 ^ k : Nat) : Int) ≤ ((2 ^ 30 : Nat) : Int) := Int.ofNat_le.2 this
  simpa using e
theorem and1 (n : Int) : bits BinOp.and IntKind.i64 n 1 = n % 2 := by
  have h1 : (BitVec.ofInt 64 1).toNat = 2 ^ 1 - 1 := by decide
  have key : (BitVec.ofInt 64 n &&& BitVec.ofInt 64 1).toNat = (n % ((2 ^ 64 : Nat) : Int)).toNat % 2 ^ 1 := by
    rw [BitVec.toNat_and, BitVec.toNat_ofInt, h1, Nat.and_two_pow_sub_one_eq_mod]
  show IntKind.i64.wrap ((BitVec.ofInt 64 n &&& BitVec.ofInt 64 1).toNat : Nat) = n % 2
  rw [key, IntKind.wrap_i64]
  omega
end Go.Proofs.YtlejfkjanllgbaaGreatDoor
