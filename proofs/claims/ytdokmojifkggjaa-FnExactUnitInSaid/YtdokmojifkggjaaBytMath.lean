/-
  Plain facts on a row in bytes.
-/
import Derived.Test.YtdokmojifkggjaaRowMath
import Derived.Test.YtdokmojifkggjaaPackMath
namespace Go.Proofs.Ytdokmojifkggjaa
open Go.RowKit
set_option linter.unusedVariables false
set_option maxRecDepth 20000

/-- The bits of a row, the sign 1 that ends it, and then 0. -/
def bitF (s : ByteArray) (j : Nat) : Int := if j < s.size then bAt s j - 48 else if j = s.size then 1 else 0
theorem bitF_bits (s : ByteArray) (h : rowB s = true) : Bits (bitF s) := fun j => by
  unfold bitF
  by_cases c : j < s.size
  · have := rowB_bit s h j c
    unfold bitAt at this
    rw [if_pos c]; omega
  · rw [if_neg c]; split <;> simp
theorem bitF_in (s : ByteArray) (j : Nat) (h : j < s.size) : bitF s j = bAt s j - 48 := by unfold bitF; rw [if_pos h]
theorem bitF_end (s : ByteArray) : bitF s s.size = 1 := by unfold bitF; simp
theorem bitF_out (s : ByteArray) (j : Nat) (h : s.size < j) : bitF s j = 0 := by unfold bitF; rw [if_neg (by omega), if_neg (by omega)]
theorem bitF_cut (s : ByteArray) : cutB (bitF s) (s.size + 1) = bitF s := by
  funext j
  unfold cutB
  by_cases c : j < s.size + 1
  · rw [if_pos c]
  · rw [if_neg c, bitF_out s j (by omega)]
/-- The bytes of a row. -/
def byL (s : ByteArray) : List Int := (List.range (s.size / 8 + 1)).map (oct (bitF s))
theorem byL_length (s : ByteArray) : (byL s).length = s.size / 8 + 1 := by simp [byL]
end Go.Proofs.Ytdokmojifkggjaa
