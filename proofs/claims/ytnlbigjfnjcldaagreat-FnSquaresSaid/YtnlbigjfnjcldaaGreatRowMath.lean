/-
  Plain facts on rows: when a text is a row of the signs 0 and 1.
-/
import Derived.WalkKit
import Derived.Laws.BytesArg
namespace Go.Proofs.YtnlbigjfnjcldaaGreat
open Go.RowKit
set_option linter.unusedVariables false
set_option maxRecDepth 20000

def bAt (s : ByteArray) (j : Nat) : Int := ((s.data.toList.getD j 0).toNat : Int)
theorem bAt_eq (s : ByteArray) (j : Nat) (h : j < s.size) : (s[j].toNat : Int) = bAt s j := by
  unfold bAt
  have h' : j < s.data.toList.length := h
  rw [List.getD_eq_getElem?_getD, List.getElem?_eq_getElem h']; rfl
abbrev bitAt (s : ByteArray) (j : Nat) : Prop := bAt s j = 48 ∨ bAt s j = 49
def rowB (s : ByteArray) : Bool := (List.range s.size).all (fun j => decide (bitAt s j))
theorem rowB_good (s : ByteArray) (h : ∀ j, j < s.size → bitAt s j) : rowB s = true := by
  unfold rowB; simpa using h
theorem rowB_bad (s : ByteArray) (k : Nat) (hk : k < s.size) (h : ¬ bitAt s k) : rowB s = false := by
  cases hb : rowB s with
  | false => rfl
  | true => exact absurd (by unfold rowB at hb; simp at hb; exact hb k hk) h
theorem rowB_bit (s : ByteArray) (h : rowB s = true) (k : Nat) (hk : k < s.size) : bitAt s k := by
  unfold rowB at h; simp at h; exact h k hk
def rowOkB (s : ByteArray) : Bool := decide (s.size ≤ 400000) && rowB s
theorem rowOkB_big (s : ByteArray) (h : 400000 < s.size) : rowOkB s = false := by unfold rowOkB; simp; omega
theorem rowOkB_small (s : ByteArray) (h : s.size ≤ 400000) : rowOkB s = rowB s := by unfold rowOkB; simp [h]
theorem rowOkB_true (s : ByteArray) (h : rowOkB s = true) : s.size ≤ 400000 ∧ rowB s = true := by unfold rowOkB at h; simpa using h
end Go.Proofs.YtnlbigjfnjcldaaGreat
