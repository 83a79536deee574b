/-
  The walks of spec.l02Bytes and spec.RowBytes: a row in bytes.
-/
import Derived.Test.YtdokmojifkggjaaDoorMarkKit
import Derived.Test.YtdokmojifkggjaaDoorMSetMath
import Derived.Test.YtdokmojifkggjaaDoorMInKit
namespace Go.Proofs.YtdokmojifkggjaaDoor
open Go.RowKit
set_option linter.unusedVariables false
set_option maxRecDepth 20000

/-- The first m signs of a row with the sign 1 behind it and then 0. -/
def padL (s : ByteArray) (m : Nat) : List Int := (List.range m).map fun j => 48 + bitF s j
theorem padL_length (s : ByteArray) (m : Nat) : (padL s m).length = m := by simp [padL]
theorem padL_succ (s : ByteArray) (m : Nat) : padL s (m + 1) = padL s m ++ [48 + bitF s m] := by simp [padL, List.range_succ]
theorem padL_row (s : ByteArray) : (s.data.toList.map fun c => Value.int .u8 (c.toNat : Int)) = (padL s s.size).map (Value.int .u8) := by
  apply List.ext_getElem
  · simp [padL]
  · intro j h1 h2
    have hj : j < s.size := by simpa using h1
    simp only [padL, List.getElem_map, List.getElem_range]
    rw [bitF_in s j hj, ← bAt_eq s j hj]
    have : s.data.toList[j]'(by simpa using h1) = s[j] := rfl
    rw [this, Int.add_comm, Int.sub_add_cancel]
def octH (b : Nat → Int) (q : Nat) : Nat → Int
  | 0 => 0
  | k + 1 => 2 * octH b q k + b (8 * q + k)
theorem octH_full (b : Nat → Int) (q : Nat) : octH b q 8 = oct b q := by
  simp only [octH, oct, Nat.add_zero]; omega
theorem octH_bd {b : Nat → Int} (h : Bits b) (q : Nat) : ∀ k, k ≤ 8 → 0 ≤ octH b q k ∧ octH b q k < 2 ^ k
  | 0, _ => by simp [octH]
  | k + 1, hk => by
    have ih := octH_bd h q k (by omega)
    have hb := h.bd (8 * q + k)
    rw [octH, Int.pow_succ]
    omega
theorem octH_le {b : Nat → Int} (h : Bits b) (q k : Nat) (hk : k ≤ 8) : 0 ≤ octH b q k ∧ octH b q k ≤ 255 := by
  have h1 := octH_bd h q k hk
  have h2 : (2 : Int) ^ k ≤ 256 := by
    have := Nat.pow_le_pow_right (n := 2) (by decide) hk
    have e : ((2 ^ k : Nat) : Int) ≤ ((2 ^ 8 : Nat) : Int) := Int.ofNat_le.2 this
    simpa using e
  omega

end Go.Proofs.YtdokmojifkggjaaDoor
