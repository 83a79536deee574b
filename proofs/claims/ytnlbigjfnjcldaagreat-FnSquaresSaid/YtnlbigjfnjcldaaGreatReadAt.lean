/-
  The walks of impl.placeOk and impl.fixAt: a number out of a row that is right.
-/
import Derived.Test.YtnlbigjfnjcldaaGreatRowWalks
import Derived.Test.YtnlbigjfnjcldaaGreatReadMath
namespace Go.Proofs.YtnlbigjfnjcldaaGreat
open Go.RowKit
set_option linter.unusedVariables false
set_option maxRecDepth 20000

def placeB (s : ByteArray) (a : Int) : Bool := decide (0 ≤ a) && decide (a ≤ (s.size : Int)) && rowOkB s
theorem placeB_yes (s : ByteArray) (a : Nat) (h : (a : Int) ≤ (s.size : Int)) (hr : rowOkB s = true) : placeB s a = true := by
  unfold placeB; rw [hr]; simp; omega
theorem placeB_no (s : ByteArray) (a : Int) (h : placeB s a = false) : rowOkB s = false ∨ a < 0 ∨ (s.size : Int) < a := by
  unfold placeB at h
  cases hr : rowOkB s with
  | false => exact .inl rfl
  | true => rw [hr] at h; simp at h; omega
theorem placeB_true (s : ByteArray) (a : Int) (h : placeB s a = true) : 0 ≤ a ∧ a ≤ (s.size : Int) ∧ rowOkB s = true := by
  unfold placeB at h; simp at h; exact ⟨h.1.1, h.1.2, h.2⟩

set_option maxHeartbeats 1000000 in
theorem implPlace (s : ByteArray) (a : Int) (w : World) (hm : s.size ≤ maxLen) :
    Calls Tryz.prog 33 #[.string s, .int .i64 a] w fun e w' => e = .returned (.bool (placeB s a)) ∧ w' = w := by
  have hm' : (s.size : Int) ≤ 9223372036854775807 := by unfold maxLen at hm; omega
  by_cases c1 : a < 0
  · have HP : Hid (placeB s a = false) := by show _ = _; unfold placeB; simp; omega
    go_enter Tryz.func33, Tryz.ntmps33
    go_wp2
    go_ret
    exact ⟨by rw [HP.out]; rfl, rfl⟩
  by_cases c2 : (s.size : Int) < a
  · have HP : Hid (placeB s a = false) := by show _ = _; unfold placeB; simp; omega
    go_enter Tryz.func33, Tryz.ntmps33
    go_wp2
    go_ret
    exact ⟨by rw [HP.out]; rfl, rfl⟩
  · have HP : Hid (placeB s a = rowOkB s) := by
      show _ = _; unfold placeB
      have e1 : decide (0 ≤ a) = true := by simp; omega
      have e2 : decide (a ≤ (s.size : Int)) = true := by simp; omega
      rw [e1, e2]; rfl
    go_enter Tryz.func33, Tryz.ntmps33
    go_wp2_with (go_at_call 53; refine (implRowOk s w hm).mono ?_; rintro e w1 ⟨rfl, hw⟩; subst w1)
    go_ret
    exact ⟨by rw [HP.out]; rfl, rfl⟩

set_option maxHeartbeats 1000000 in
theorem implAt (s : ByteArray) (a k : Nat) (w : World) (hr : rowOkB s = true) (hk : (k : Int) ≤ 30) (hak : (a : Int) + (k : Int) ≤ (s.size : Int)) :
    Calls Tryz.prog 76 #[.string s, .int .i64 a, .int .i64 k] w fun e w' => e = .returned (.tuple #[.int .i64 (readN s a k), .int .i64 ((a : Int) + (k : Int)), .bool true]) ∧ w' = w := by
  obtain ⟨h4, hrow⟩ := rowOkB_true s hr
  have h4' : (s.size : Int) ≤ 400000 := by omega
  have HR : Hid (rowB s = true) := hrow
  clear hrow
  go_enter Tryz.func76, Tryz.ntmps76
  go_wp2
  go_loopw [9, 26] (fun n i wr => ∃ j : Nat, j ≤ k ∧ i = .int .i64 (j : Int) ∧ n = .int .i64 (readN s a j) ∧ wr = w)
    (fun _ i _ => k - (intOf i).toNat)
  case atStart => exact ⟨0, Nat.zero_le _, rfl, rfl, rfl⟩
  case round =>
    obtain ⟨j, hj, rfl, rfl, rfl⟩ := hrel
    have hbd := readN_bd s a j HR.out (by omega) (by omega)
    by_cases hlt : j < k
    · have HS : Hid (readN s a (j + 1) = 2 * readN s a j + (bAt s (a + j) - 48)) := rfl
      have HX : Hid ((s[a + j].toNat : Int) = bAt s (a + j)) := bAt_eq s (a + j) (by omega)
      have hbit : 48 ≤ (s[a + j].toNat : Int) ∧ (s[a + j].toNat : Int) ≤ 49 := by
        have := rowB_bit s HR.out (a + j) (by omega); unfold bitAt at this; rw [← HX.out] at this; omega
      generalize readN s a j = n at *
      have hq : (j : Int) < (k : Int) := by omega
      go_wp2
      go_roundw
      case rel => exact ⟨j + 1, by omega, by go_num, by rw [HS.out, ← HX.out], trivial⟩
      case measure => simp [intOf]; omega
    · obtain rfl : j = k := by omega
      go_wp2
      go_ret3
      exact ⟨rfl, rfl⟩

set_option maxHeartbeats 1000000 in
theorem implAtNo (s : ByteArray) (a k : Int) (w : World) (h4 : (s.size : Int) ≤ 400000) (ha0 : 0 ≤ a) (ha : a ≤ (s.size : Int)) (h : k < 0 ∨ 30 < k ∨ (s.size : Int) - a < k) :
    Calls Tryz.prog 76 #[.string s, .int .i64 a, .int .i64 k] w fun e w' => e = .returned (.tuple #[.int .i64 0, .int .i64 0, .bool false]) ∧ w' = w := by
  rcases h with c | c | c
  all_goals
    go_enter Tryz.func76, Tryz.ntmps76
    go_wp2
    all_goals (go_ret3; exact ⟨rfl, rfl⟩)

/-- When ReadFix refuses. -/
abbrev readNo (s : ByteArray) (a k : Int) : Prop := rowOkB s = false ∨ a < 0 ∨ (s.size : Int) < a ∨ k < 0 ∨ 30 < k ∨ (s.size : Int) - a < k
end Go.Proofs.YtnlbigjfnjcldaaGreat
