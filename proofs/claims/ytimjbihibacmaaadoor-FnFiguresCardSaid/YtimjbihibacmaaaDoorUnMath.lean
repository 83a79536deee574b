/-
  Plain facts on reading figures back: what a byte counts as, and what two of them make.
-/
import Derived.WalkKit
import Derived.Laws.BytesArg
namespace Go.Proofs.YtimjbihibacmaaaDoor.hx
open Go.RowKit
set_option linter.unusedVariables false

def valI (x : Int) : Int := if 48 ≤ x ∧ x ≤ 57 then x - 48 else if 97 ≤ x ∧ x ≤ 102 then x - 87 else -1
theorem valI_bd (x : Int) : -1 ≤ valI x ∧ valI x ≤ 15 := by unfold valI; split <;> (try split) <;> omega
def byteAt (s : ByteArray) (j : Nat) : Int := ((s.data.toList.getD j 0).toNat : Int)
theorem byteAt_eq (s : ByteArray) (j : Nat) (h : j < s.size) : (s[j].toNat : Int) = byteAt s j := by
  unfold byteAt
  have h' : j < s.data.toList.length := h
  rw [List.getD_eq_getElem?_getD, List.getElem?_eq_getElem h']; rfl
def pairAt (s : ByteArray) (j : Nat) : Int := 16 * valI (byteAt s (2 * j)) + valI (byteAt s (2 * j + 1))
abbrev goodAt (s : ByteArray) (j : Nat) : Prop := 0 ≤ valI (byteAt s (2 * j)) ∧ 0 ≤ valI (byteAt s (2 * j + 1))
def unL (s : ByteArray) (k : Nat) : List Int := (List.range k).map (pairAt s)
theorem unL_length (s : ByteArray) (k : Nat) : (unL s k).length = k := by simp [unL]
theorem unL_succ (s : ByteArray) (k : Nat) : unL s (k + 1) = unL s k ++ [pairAt s k] := by simp [unL, List.range_succ]
def unV (s : ByteArray) : Value := if (List.range (s.size / 2)).all (fun j => decide (goodAt s j)) then .tuple #[.string (strOfNums (unL s (s.size / 2))), .bool true] else .tuple #[.string ByteArray.empty, .bool false]
theorem unV_good (s : ByteArray) (k : Nat) (hk : 2 * k = s.size) (h : ∀ j, j < k → goodAt s j) : unV s = .tuple #[.string (strOfNums (unL s k)), .bool true] := by
  unfold unV
  have e : s.size / 2 = k := by omega
  rw [e, if_pos (by simpa using h)]
theorem unV_bad (s : ByteArray) (k : Nat) (hk : 2 * k + 1 < s.size) (h : ¬ goodAt s k) : unV s = .tuple #[.string ByteArray.empty, .bool false] := by
  unfold unV
  rw [if_neg (fun g => h (by simp at g; exact g k (by omega)))]
theorem unV_form (s : ByteArray) : ∃ b x, unV s = .tuple #[.string x, .bool b] := by
  unfold unV
  split
  · exact ⟨_, _, rfl⟩
  · exact ⟨_, _, rfl⟩
end Go.Proofs.YtimjbihibacmaaaDoor.hx
