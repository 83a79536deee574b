/-
  The walk of spec.l02Read: a number out of what is known to be a row.
-/
import Derived.Test.YtlejfkjanllgbaaDoorInAny
import Derived.Test.YtlejfkjanllgbaaDoorRowWalks
import Derived.Test.YtlejfkjanllgbaaDoorReadMath
namespace Go.Proofs.YtlejfkjanllgbaaDoor
open Go.RowKit
set_option linter.unusedVariables false
set_option maxRecDepth 20000

set_option maxHeartbeats 1000000 in
theorem specRead (s : ByteArray) (a k : Nat) (w : World) (hr : rowOkB s = true) (hk : (k : Int) ≤ 30) (hak : (a : Int) + (k : Int) ≤ (s.size : Int)) :
    Calls Tryd.prog 116 #[.string s, .int .i64 a, .int .i64 k] w fun e w' => e = .returned (.tuple #[.int .i64 (readN s a k), .int .i64 ((a : Int) + (k : Int)), .bool true]) ∧ w' = w := by
  obtain ⟨h4, hrow⟩ := rowOkB_true s hr
  have h4' : (s.size : Int) ≤ 400000 := by omega
  have HR : Hid (rowB s = true) := hrow
  clear hrow
  go_enter Tryd.func116, Tryd.ntmps116
  go_wp2
  go_loopw [9, 10] (fun n i wr => ∃ j : Nat, j ≤ k ∧ i = .int .i64 ((a : Int) + (j : Int)) ∧ n = .int .i64 (readN s a j) ∧ wr = w)
    (fun _ i _ => a + k - (intOf i).toNat)
  case atStart => exact ⟨0, Nat.zero_le _, by simp, rfl, rfl⟩
  case round =>
    obtain ⟨j, hj, rfl, rfl, rfl⟩ := hrel
    have hbd := readN_bd s a j HR.out (by omega) (by omega)
    by_cases hlt : j < k
    · have HS : Hid (readN s a (j + 1) = 2 * readN s a j + (bAt s (a + j) - 48)) := rfl
      have HX : Hid ((s[a + j].toNat : Int) = bAt s (a + j)) := bAt_eq s (a + j) (by omega)
      have hbit : 48 ≤ (s[a + j].toNat : Int) ∧ (s[a + j].toNat : Int) ≤ 49 := by
        have := rowB_bit s HR.out (a + j) (by omega); unfold bitAt at this; rw [← HX.out] at this; omega
      generalize readN s a j = n at *
      have hq : (j : Int) < (k : Int) := by omega
      go_wp2
      go_roundw
      case rel => exact ⟨j + 1, by omega, by go_num, by rw [HS.out, ← HX.out]; congr 1; omega, trivial⟩
      case measure => simp [intOf]; omega
    · obtain rfl : j = k := by omega
      go_wp2
      go_ret3
      exact ⟨rfl, rfl⟩

set_option maxHeartbeats 1000000 in
theorem specRead_no (s : ByteArray) (a k : Nat) (w : World) (h4 : (s.size : Int) ≤ 400000) (ha : (a : Int) ≤ (s.size : Int)) (hk : (k : Int) ≤ 30) (hak : (s.size : Int) - (a : Int) < (k : Int)) :
    Calls Tryd.prog 116 #[.string s, .int .i64 a, .int .i64 k] w fun e w' => e = .returned (.tuple #[.int .i64 0, .int .i64 0, .bool false]) ∧ w' = w := by
  go_enter Tryd.func116, Tryd.ntmps116
  go_wp2
  go_ret3
  exact ⟨rfl, rfl⟩
end Go.Proofs.YtlejfkjanllgbaaDoor
