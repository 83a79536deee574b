/-
  The walk of spec.ReadFix: a number out of a row.
-/
import Derived.Test.YtdmdkfjgapnjpaaReadOne
import Derived.Test.YtdmdkfjgapnjpaaReadAt
namespace Go.Proofs.Ytdmdkfjgapnjpaa
open Go.RowKit
set_option linter.unusedVariables false

set_option maxHeartbeats 1000000 in
theorem specReadFix (s : ByteArray) (a k : Nat) (w : World) (hr : rowOkB s = true) (hk : (k : Int) ≤ 30) (hak : (a : Int) + (k : Int) ≤ (s.size : Int)) :
    Calls Try.prog 12 #[.string s, .int .i64 a, .int .i64 k] w fun e w' => e = .returned (.tuple #[.int .i64 (readN s a k), .int .i64 ((a : Int) + (k : Int)), .bool true]) ∧ w' = w := by
  have h4 := (rowOkB_true s hr).1
  have hm : s.size ≤ maxLen := by unfold maxLen; omega
  have i1 : (decide ((0 : Int) ≤ (a : Int)) && decide ((a : Int) ≤ (s.size : Int))) = true := by simp; omega
  have i2 : (decide ((0 : Int) ≤ (k : Int)) && decide ((k : Int) ≤ 30)) = true := by simp; omega
  go_enter Try.func12, Try.ntmps12
  go_wp2_with (first
    | (go_at_call 23; refine (specRowOk s w hm).mono ?_; rintro e w1 ⟨rfl, hw⟩; subst w1)
    | (go_at_call 24; refine (in_any _ _ _ _).mono ?_; rintro e w1 ⟨rfl, hw⟩; subst w1)
    | (go_at_call 25; refine (specRead s a k w hr hk hak).mono ?_; rintro e w1 ⟨rfl, hw⟩; subst w1))
  go_ret3
  exact ⟨rfl, rfl⟩

set_option maxHeartbeats 1000000 in
theorem specReadNo (s : ByteArray) (a k : Int) (w : World) (hm : s.size ≤ maxLen) (b0 : -9223372036854775808 ≤ a ∧ a ≤ 9223372036854775807) (b1 : -9223372036854775808 ≤ k ∧ k ≤ 9223372036854775807) (h : readNo s a k) :
    Calls Try.prog 12 #[.string s, .int .i64 a, .int .i64 k] w fun e w' => e = .returned (.tuple #[.int .i64 0, .int .i64 0, .bool false]) ∧ w' = w := by
  have HN : Hid (readNo s a k) := h
  clear h
  have hm' : (s.size : Int) ≤ 9223372036854775807 := by unfold maxLen at hm; omega
  cases hr : rowOkB s with
  | false =>
    go_enter Try.func12, Try.ntmps12
    go_wp2_with (first
      | (go_at_call 23; refine (specRowOk s w hm).mono ?_; rintro e w1 ⟨rfl, hw⟩; subst w1)
      | (go_at_call 24; refine (in_any _ _ _ _).mono ?_; rintro e w1 ⟨rfl, hw⟩; subst w1))
    go_ret3
    exact ⟨rfl, rfl⟩
  | true =>
    have h4 := (rowOkB_true s hr).1
    have h4' : (s.size : Int) ≤ 400000 := by omega
    clear hm'
    by_cases c1 : a < 0 ∨ (s.size : Int) < a
    · have i1 : (decide ((0 : Int) ≤ a) && decide (a ≤ (s.size : Int))) = false := by simp; omega
      clear c1
      go_enter Try.func12, Try.ntmps12
      go_wp2_with (first
        | (go_at_call 23; refine (specRowOk s w hm).mono ?_; rintro e w1 ⟨rfl, hw⟩; subst w1)
        | (go_at_call 24; refine (in_any _ _ _ _).mono ?_; rintro e w1 ⟨rfl, hw⟩; subst w1))
      go_ret3
      exact ⟨rfl, rfl⟩
    have i1 : (decide ((0 : Int) ≤ a) && decide (a ≤ (s.size : Int))) = true := by simp; omega
    by_cases c2 : k < 0 ∨ 30 < k
    · have i2 : (decide ((0 : Int) ≤ k) && decide (k ≤ 30)) = false := by simp; omega
      clear c1 c2
      go_enter Try.func12, Try.ntmps12
      go_wp2_with (first
        | (go_at_call 23; refine (specRowOk s w hm).mono ?_; rintro e w1 ⟨rfl, hw⟩; subst w1)
        | (go_at_call 24; refine (in_any _ _ _ _).mono ?_; rintro e w1 ⟨rfl, hw⟩; subst w1))
      go_ret3
      exact ⟨rfl, rfl⟩
    have i2 : (decide ((0 : Int) ≤ k) && decide (k ≤ 30)) = true := by simp; omega
    obtain ⟨a', rfl⟩ := Int.eq_ofNat_of_zero_le (show 0 ≤ a by omega)
    obtain ⟨k', rfl⟩ := Int.eq_ofNat_of_zero_le (show 0 ≤ k by omega)
    have c3 : (s.size : Int) - (a' : Int) < (k' : Int) := by
      rcases HN.out with h | h | h | h | h | h
      · rw [hr] at h; cases h
      all_goals omega
    have c4 : (a' : Int) ≤ (s.size : Int) := by omega
    have c5 : (k' : Int) ≤ 30 := by omega
    clear c1 c2
    go_enter Try.func12, Try.ntmps12
    go_wp2_with (first
      | (go_at_call 23; refine (specRowOk s w hm).mono ?_; rintro e w1 ⟨rfl, hw⟩; subst w1)
      | (go_at_call 24; refine (in_any _ _ _ _).mono ?_; rintro e w1 ⟨rfl, hw⟩; subst w1)
      | (go_at_call 25; refine (specRead_no s a' k' w h4' c4 c5 c3).mono ?_; rintro e w1 ⟨rfl, hw⟩; subst w1))
    go_ret3
    exact ⟨rfl, rfl⟩
end Go.Proofs.Ytdmdkfjgapnjpaa
