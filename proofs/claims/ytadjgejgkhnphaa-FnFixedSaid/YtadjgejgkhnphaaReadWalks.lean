/-
  The walks of impl.ReadFix, spec.l02Read and spec.ReadFix: a number out of a row.
-/
import Derived.Test.YtadjgejgkhnphaaRowWalks
import Derived.Test.YtadjgejgkhnphaaFixWalks
import Derived.Test.YtadjgejgkhnphaaReadMath
namespace Go.Proofs.Ytadjgejgkhnphaa
open Go.RowKit
set_option linter.unusedVariables false

set_option maxHeartbeats 1000000 in
theorem implRead (s : ByteArray) (a k : Nat) (w : World) (hr : rowOkB s = true) (hk : (k : Int) ≤ 30) (hak : (a : Int) + (k : Int) ≤ (s.size : Int)) :
    Calls Try.prog 11 #[.string s, .int .i64 a, .int .i64 k] w fun e w' => e = .returned (.tuple #[.int .i64 (readN s a k), .int .i64 ((a : Int) + (k : Int)), .bool true]) ∧ w' = w := by
  obtain ⟨h4, hrow⟩ := rowOkB_true s hr
  have h4' : (s.size : Int) ≤ 400000 := by omega
  have HR : Hid (rowB s = true) := hrow
  clear hrow
  have hm : s.size ≤ maxLen := by unfold maxLen; omega
  go_enter Try.func11, Try.ntmps11
  go_wp2_with (go_at_call 13; refine (implRowOk s w hm).mono ?_; rintro e w1 ⟨rfl, hw⟩; subst w1)
  go_loopw [9, 39] (fun n i wr => ∃ j : Nat, j ≤ k ∧ i = .int .i64 (j : Int) ∧ n = .int .i64 (readN s a j) ∧ wr = w)
    (fun _ i _ => k - (intOf i).toNat)
  case atStart => exact ⟨0, Nat.zero_le _, rfl, rfl, rfl⟩
  case round =>
    obtain ⟨j, hj, rfl, rfl, rfl⟩ := hrel
    have hbd := readN_bd s a j HR.out (by omega) (by omega)
    by_cases hlt : j < k
    · have HS : Hid (readN s a (j + 1) = 2 * readN s a j + (bAt s (a + j) - 48)) := rfl
      have HX : Hid ((s[a + j].toNat : Int) = bAt s (a + j)) := bAt_eq s (a + j) (by omega)
      have hbit : 48 ≤ (s[a + j].toNat : Int) ∧ (s[a + j].toNat : Int) ≤ 49 := by
        have := rowB_bit s HR.out (a + j) (by omega); unfold bitAt at this; rw [← HX.out] at this; omega
      generalize readN s a j = n at *
      have hq : (j : Int) < (k : Int) := by omega
      go_wp2
      go_roundw
      case rel => exact ⟨j + 1, by omega, by go_num, by rw [HS.out, ← HX.out], trivial⟩
      case measure => simp [intOf]; omega
    · obtain rfl : j = k := by omega
      go_wp2
      go_ret3
      exact ⟨rfl, rfl⟩

set_option maxHeartbeats 1000000 in
theorem specRead (s : ByteArray) (a k : Nat) (w : World) (hr : rowOkB s = true) (hk : (k : Int) ≤ 30) (hak : (a : Int) + (k : Int) ≤ (s.size : Int)) :
    Calls Try.prog 23 #[.string s, .int .i64 a, .int .i64 k] w fun e w' => e = .returned (.tuple #[.int .i64 (readN s a k), .int .i64 ((a : Int) + (k : Int)), .bool true]) ∧ w' = w := by
  obtain ⟨h4, hrow⟩ := rowOkB_true s hr
  have h4' : (s.size : Int) ≤ 400000 := by omega
  have HR : Hid (rowB s = true) := hrow
  clear hrow
  go_enter Try.func23, Try.ntmps23
  go_wp2
  go_loopw [9, 10] (fun n i wr => ∃ j : Nat, j ≤ k ∧ i = .int .i64 ((a : Int) + (j : Int)) ∧ n = .int .i64 (readN s a j) ∧ wr = w)
    (fun _ i _ => a + k - (intOf i).toNat)
  case atStart => exact ⟨0, Nat.zero_le _, by simp, rfl, rfl⟩
  case round =>
    obtain ⟨j, hj, rfl, rfl, rfl⟩ := hrel
    have hbd := readN_bd s a j HR.out (by omega) (by omega)
    by_cases hlt : j < k
    · have HS : Hid (readN s a (j + 1) = 2 * readN s a j + (bAt s (a + j) - 48)) := rfl
      have HX : Hid ((s[a + j].toNat : Int) = bAt s (a + j)) := bAt_eq s (a + j) (by omega)
      have hbit : 48 ≤ (s[a + j].toNat : Int) ∧ (s[a + j].toNat : Int) ≤ 49 := by
        have := rowB_bit s HR.out (a + j) (by omega); unfold bitAt at this; rw [← HX.out] at this; omega
      generalize readN s a j = n at *
      have hq : (j : Int) < (k : Int) := by omega
      go_wp2
      go_roundw
      case rel => exact ⟨j + 1, by omega, by go_num, by rw [HS.out, ← HX.out]; congr 1; omega, trivial⟩
      case measure => simp [intOf]; omega
    · obtain rfl : j = k := by omega
      go_wp2
      go_ret3
      exact ⟨rfl, rfl⟩

set_option maxHeartbeats 1000000 in
theorem specRead_no (s : ByteArray) (a k : Nat) (w : World) (h4 : (s.size : Int) ≤ 400000) (ha : (a : Int) ≤ (s.size : Int)) (hk : (k : Int) ≤ 30) (hak : (s.size : Int) - (a : Int) < (k : Int)) :
    Calls Try.prog 23 #[.string s, .int .i64 a, .int .i64 k] w fun e w' => e = .returned (.tuple #[.int .i64 0, .int .i64 0, .bool false]) ∧ w' = w := by
  go_enter Try.func23, Try.ntmps23
  go_wp2
  go_ret3
  exact ⟨rfl, rfl⟩

/-- When ReadFix refuses. -/
abbrev readNo (s : ByteArray) (a k : Int) : Prop := rowOkB s = false ∨ a < 0 ∨ (s.size : Int) < a ∨ k < 0 ∨ 30 < k ∨ (s.size : Int) - a < k

set_option maxHeartbeats 1000000 in
theorem implReadNo (s : ByteArray) (a k : Int) (w : World) (hm : s.size ≤ maxLen) (b0 : -9223372036854775808 ≤ a ∧ a ≤ 9223372036854775807) (b1 : -9223372036854775808 ≤ k ∧ k ≤ 9223372036854775807) (h : readNo s a k) :
    Calls Try.prog 11 #[.string s, .int .i64 a, .int .i64 k] w fun e w' => e = .returned (.tuple #[.int .i64 0, .int .i64 0, .bool false]) ∧ w' = w := by
  have HN : Hid (readNo s a k) := h
  clear h
  have hm' : (s.size : Int) ≤ 9223372036854775807 := by unfold maxLen at hm; omega
  cases hr : rowOkB s with
  | false =>
    go_enter Try.func11, Try.ntmps11
    go_wp2_with (go_at_call 13; refine (implRowOk s w hm).mono ?_; rintro e w1 ⟨rfl, hw⟩; subst w1)
    go_ret3
    exact ⟨rfl, rfl⟩
  | true =>
    have h4 := (rowOkB_true s hr).1
    have h4' : (s.size : Int) ≤ 400000 := by omega
    clear hm'
    by_cases c1 : a < 0 ∨ (s.size : Int) < a
    · have c1' : (decide (a < 0) || decide ((s.size : Int) < a)) = true := by simpa using c1
      rcases c1 with c | c
      all_goals
        go_enter Try.func11, Try.ntmps11
        go_wp2_with (go_at_call 13; refine (implRowOk s w hm).mono ?_; rintro e w1 ⟨rfl, hw⟩; subst w1)
        go_ret3
        exact ⟨rfl, rfl⟩
    · have c2 : k < 0 ∨ 30 < k ∨ (s.size : Int) - a < k := by
        rcases HN.out with h | h | h | h
        · rw [hr] at h; cases h
        · omega
        · omega
        · exact h
      have c3 : 0 ≤ a := by omega
      have c4 : a ≤ (s.size : Int) := by omega
      clear c1
      rcases c2 with c | c | c
      all_goals
        go_enter Try.func11, Try.ntmps11
        go_wp2_with (go_at_call 13; refine (implRowOk s w hm).mono ?_; rintro e w1 ⟨rfl, hw⟩; subst w1)
        all_goals (go_ret3; exact ⟨rfl, rfl⟩)

set_option maxHeartbeats 1000000 in
theorem specReadFix (s : ByteArray) (a k : Nat) (w : World) (hr : rowOkB s = true) (hk : (k : Int) ≤ 30) (hak : (a : Int) + (k : Int) ≤ (s.size : Int)) :
    Calls Try.prog 15 #[.string s, .int .i64 a, .int .i64 k] w fun e w' => e = .returned (.tuple #[.int .i64 (readN s a k), .int .i64 ((a : Int) + (k : Int)), .bool true]) ∧ w' = w := by
  have h4 := (rowOkB_true s hr).1
  have hm : s.size ≤ maxLen := by unfold maxLen; omega
  have i1 : (decide ((0 : Int) ≤ (a : Int)) && decide ((a : Int) ≤ (s.size : Int))) = true := by simp; omega
  have i2 : (decide ((0 : Int) ≤ (k : Int)) && decide ((k : Int) ≤ 30)) = true := by simp; omega
  go_enter Try.func15, Try.ntmps15
  go_wp2_with (first
    | (go_at_call 12; refine (specRowOk s w hm).mono ?_; rintro e w1 ⟨rfl, hw⟩; subst w1)
    | (go_at_call 21; refine (in_any _ _ _ _).mono ?_; rintro e w1 ⟨rfl, hw⟩; subst w1)
    | (go_at_call 23; refine (specRead s a k w hr hk hak).mono ?_; rintro e w1 ⟨rfl, hw⟩; subst w1))
  go_ret3
  exact ⟨rfl, rfl⟩

set_option maxHeartbeats 1000000 in
theorem specReadNo (s : ByteArray) (a k : Int) (w : World) (hm : s.size ≤ maxLen) (b0 : -9223372036854775808 ≤ a ∧ a ≤ 9223372036854775807) (b1 : -9223372036854775808 ≤ k ∧ k ≤ 9223372036854775807) (h : readNo s a k) :
    Calls Try.prog 15 #[.string s, .int .i64 a, .int .i64 k] w fun e w' => e = .returned (.tuple #[.int .i64 0, .int .i64 0, .bool false]) ∧ w' = w := by
  have HN : Hid (readNo s a k) := h
  clear h
  have hm' : (s.size : Int) ≤ 9223372036854775807 := by unfold maxLen at hm; omega
  cases hr : rowOkB s with
  | false =>
    go_enter Try.func15, Try.ntmps15
    go_wp2_with (first
      | (go_at_call 12; refine (specRowOk s w hm).mono ?_; rintro e w1 ⟨rfl, hw⟩; subst w1)
      | (go_at_call 21; refine (in_any _ _ _ _).mono ?_; rintro e w1 ⟨rfl, hw⟩; subst w1))
    go_ret3
    exact ⟨rfl, rfl⟩
  | true =>
    have h4 := (rowOkB_true s hr).1
    have h4' : (s.size : Int) ≤ 400000 := by omega
    clear hm'
    by_cases c1 : a < 0 ∨ (s.size : Int) < a
    · have i1 : (decide ((0 : Int) ≤ a) && decide (a ≤ (s.size : Int))) = false := by simp; omega
      clear c1
      go_enter Try.func15, Try.ntmps15
      go_wp2_with (first
        | (go_at_call 12; refine (specRowOk s w hm).mono ?_; rintro e w1 ⟨rfl, hw⟩; subst w1)
        | (go_at_call 21; refine (in_any _ _ _ _).mono ?_; rintro e w1 ⟨rfl, hw⟩; subst w1))
      go_ret3
      exact ⟨rfl, rfl⟩
    have i1 : (decide ((0 : Int) ≤ a) && decide (a ≤ (s.size : Int))) = true := by simp; omega
    by_cases c2 : k < 0 ∨ 30 < k
    · have i2 : (decide ((0 : Int) ≤ k) && decide (k ≤ 30)) = false := by simp; omega
      clear c1 c2
      go_enter Try.func15, Try.ntmps15
      go_wp2_with (first
        | (go_at_call 12; refine (specRowOk s w hm).mono ?_; rintro e w1 ⟨rfl, hw⟩; subst w1)
        | (go_at_call 21; refine (in_any _ _ _ _).mono ?_; rintro e w1 ⟨rfl, hw⟩; subst w1))
      go_ret3
      exact ⟨rfl, rfl⟩
    have i2 : (decide ((0 : Int) ≤ k) && decide (k ≤ 30)) = true := by simp; omega
    obtain ⟨a', rfl⟩ := Int.eq_ofNat_of_zero_le (show 0 ≤ a by omega)
    obtain ⟨k', rfl⟩ := Int.eq_ofNat_of_zero_le (show 0 ≤ k by omega)
    have c3 : (s.size : Int) - (a' : Int) < (k' : Int) := by
      rcases HN.out with h | h | h | h | h | h
      · rw [hr] at h; cases h
      all_goals omega
    have c4 : (a' : Int) ≤ (s.size : Int) := by omega
    have c5 : (k' : Int) ≤ 30 := by omega
    clear c1 c2
    go_enter Try.func15, Try.ntmps15
    go_wp2_with (first
      | (go_at_call 12; refine (specRowOk s w hm).mono ?_; rintro e w1 ⟨rfl, hw⟩; subst w1)
      | (go_at_call 21; refine (in_any _ _ _ _).mono ?_; rintro e w1 ⟨rfl, hw⟩; subst w1)
      | (go_at_call 23; refine (specRead_no s a' k' w h4' c4 c5 c3).mono ?_; rintro e w1 ⟨rfl, hw⟩; subst w1))
    go_ret3
    exact ⟨rfl, rfl⟩
end Go.Proofs.Ytadjgejgkhnphaa
