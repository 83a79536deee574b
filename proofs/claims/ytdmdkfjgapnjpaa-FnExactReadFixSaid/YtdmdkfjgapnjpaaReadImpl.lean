/-
  The walk of impl.ReadFix: a number out of a row.
-/
import Derived.Test.YtdmdkfjgapnjpaaReadAt
namespace Go.Proofs.Ytdmdkfjgapnjpaa
open Go.RowKit
set_option linter.unusedVariables false

set_option maxHeartbeats 1000000 in
theorem implRead (s : ByteArray) (a k : Nat) (w : World) (hr : rowOkB s = true) (hk : (k : Int) ≤ 30) (hak : (a : Int) + (k : Int) ≤ (s.size : Int)) :
    Calls Try.prog 11 #[.string s, .int .i64 a, .int .i64 k] w fun e w' => e = .returned (.tuple #[.int .i64 (readN s a k), .int .i64 ((a : Int) + (k : Int)), .bool true]) ∧ w' = w := by
  have h4 := (rowOkB_true s hr).1
  have hm : s.size ≤ maxLen := by unfold maxLen; omega
  have hp := placeB_yes s a (by omega) hr
  go_enter Try.func11, Try.ntmps11
  go_wp2_with (first
    | (go_at_call 21; refine (implPlace s a w hm).mono ?_; rintro e w1 ⟨rfl, hw⟩; subst w1)
    | (go_at_call 22; refine (implAt s a k w hr hk hak).mono ?_; rintro e w1 ⟨rfl, hw⟩; subst w1))
  go_ret3
  exact ⟨rfl, rfl⟩

set_option maxHeartbeats 1000000 in
theorem implReadNo (s : ByteArray) (a k : Int) (w : World) (hm : s.size ≤ maxLen) (b0 : -9223372036854775808 ≤ a ∧ a ≤ 9223372036854775807) (b1 : -9223372036854775808 ≤ k ∧ k ≤ 9223372036854775807) (h : readNo s a k) :
    Calls Try.prog 11 #[.string s, .int .i64 a, .int .i64 k] w fun e w' => e = .returned (.tuple #[.int .i64 0, .int .i64 0, .bool false]) ∧ w' = w := by
  cases hp : placeB s a with
  | false =>
    clear h
    go_enter Try.func11, Try.ntmps11
    go_wp2_with (go_at_call 21; refine (implPlace s a w hm).mono ?_; rintro e w1 ⟨rfl, hw⟩; subst w1)
    go_ret3
    exact ⟨rfl, rfl⟩
  | true =>
    obtain ⟨h0, h1, hr⟩ := placeB_true s a hp
    have h4 := (rowOkB_true s hr).1
    have h4' : (s.size : Int) ≤ 400000 := by omega
    have c2 : k < 0 ∨ 30 < k ∨ (s.size : Int) - a < k := by
      rcases h with h | h | h | h
      · rw [hr] at h; cases h
      · omega
      · omega
      · exact h
    have HC : Hid (k < 0 ∨ 30 < k ∨ (s.size : Int) - a < k) := c2
    clear c2 h
    go_enter Try.func11, Try.ntmps11
    go_wp2_with (first
      | (go_at_call 21; refine (implPlace s a w hm).mono ?_; rintro e w1 ⟨rfl, hw⟩; subst w1)
      | (go_at_call 22; refine (implAtNo s a k w h4' h0 h1 HC.out).mono ?_; rintro e w1 ⟨rfl, hw⟩; subst w1))
    go_ret3
    exact ⟨rfl, rfl⟩
end Go.Proofs.Ytdmdkfjgapnjpaa
