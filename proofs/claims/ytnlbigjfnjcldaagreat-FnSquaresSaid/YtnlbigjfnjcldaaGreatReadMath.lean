/-
  Plain facts on reading numbers out of a row.
-/
import Derived.Test.YtnlbigjfnjcldaaGreatRowMath
import Derived.Test.YtnlbigjfnjcldaaGreatRowAll
namespace Go.Proofs.YtnlbigjfnjcldaaGreat
open Go.RowKit
set_option linter.unusedVariables false
set_option maxRecDepth 20000

def readN (s : ByteArray) (a : Nat) : Nat → Int
  | 0 => 0
  | k + 1 => 2 * readN s a k + (bAt s (a + k) - 48)
theorem readN_pow (s : ByteArray) (a : Nat) (h : rowB s = true) : ∀ k, a + k ≤ s.size → 0 ≤ readN s a k ∧ readN s a k < 2 ^ k
  | 0, _ => by simp [readN]
  | k + 1, hk => by
    have ih := readN_pow s a h k (by omega)
    have hb := rowB_bit s h (a + k) (by omega)
    unfold bitAt at hb
    rw [readN, Int.pow_succ]
    omega
theorem readN_bd (s : ByteArray) (a k : Nat) (h : rowB s = true) (hk : a + k ≤ s.size) (h30 : (k : Int) ≤ 30) : 0 ≤ readN s a k ∧ readN s a k < 1073741824 := by
  have h1 := readN_pow s a h k hk
  have h2 := pow_bd k (by omega)
  omega
end Go.Proofs.YtnlbigjfnjcldaaGreat
