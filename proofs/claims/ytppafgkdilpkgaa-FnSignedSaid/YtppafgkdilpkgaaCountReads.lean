/-
  The walks of ReadUe and ReadSe, of impl and of spec.
-/
import Derived.Test.YtppafgkdilpkgaaCountBack
import Derived.Test.YtppafgkdilpkgaaFoldSpec
namespace Go.Proofs.Ytppafgkdilpkgaa
open Go.RowKit
set_option linter.unusedVariables false

theorem opens_ue : Opens 0 (fun u => u) := fun u w h0 h1 => implSame u w ⟨h0, h1⟩
theorem opens_ue_no : OpensNot 0 := fun u w h => implSame_no u w (.inr h)
theorem opens_se : Opens 1 seO := fun u w h0 h1 => implOpen u w ⟨h0, h1⟩
theorem opens_se_no : OpensNot 1 := fun u w h => implOpen_no u w (.inr h)
theorem Counted.low {s : ByteArray} {a z : Nat} {n : Int} (hc : Counted s a z n) (hr : rowOkB s = true) : 0 ≤ n := by
  have hrow := (rowOkB_true s hr).2
  have h1 := readN_first s (a + z) hc.first.one z (by have := hc.fits; omega) hrow
  have hp : (1 : Int) ≤ 2 ^ z := Int.pow_pos (by decide)
  have := hc.num
  omega

set_option maxHeartbeats 1000000 in
theorem specSeAt (s : ByteArray) (a z : Nat) (n : Int) (w : World) (hr : rowOkB s = true) (hc : Counted s a z n) :
    Calls Try.prog 46 #[.string s, .int .i64 a] w fun e w' => e = .returned (.tuple #[.int .i64 (seO n), .int .i64 ((a : Int) + (z : Int) + ((z : Int) + 1)), .bool true]) ∧ w' = w := by
  have HA : Hid (Calls Try.prog 44 #[.string s, .int .i64 a] w fun e w' => e = .returned (.tuple #[.int .i64 n, .int .i64 ((a : Int) + (z : Int) + ((z : Int) + 1)), .bool true]) ∧ w' = w) := specReadAt s a z n w hr hc
  have HB : Hid (0 ≤ n ∧ n ≤ 1000000) := ⟨hc.low hr, hc.top⟩
  clear hr hc
  go_enter Try.func46, Try.ntmps46
  go_wp2_with (first
    | (go_at_call 44; refine HA.out.mono ?_; rintro e w1 ⟨rfl, hw⟩; subst w1)
    | (go_at_call 27; refine (specOpen n _ HB.out).mono ?_; rintro e w1 ⟨rfl, hw⟩; subst w1))
  go_ret3
  exact ⟨rfl, rfl⟩
set_option maxHeartbeats 1000000 in
theorem specSeAtNo (s : ByteArray) (a : Nat) (w : World) (hr : rowOkB s = true) (ha : (a : Int) ≤ (s.size : Int)) (h : CountedNot s a) :
    Calls Try.prog 46 #[.string s, .int .i64 a] w fun e w' => e = .returned (.tuple #[.int .i64 0, .int .i64 0, .bool false]) ∧ w' = w := by
  have HA : Hid (Calls Try.prog 44 #[.string s, .int .i64 a] w fun e w' => e = .returned (.tuple #[.int .i64 0, .int .i64 0, .bool false]) ∧ w' = w) := specReadAtNo s a w hr ha h
  clear hr ha h
  go_enter Try.func46, Try.ntmps46
  go_wp2_with (go_at_call 44; refine HA.out.mono ?_; rintro e w1 ⟨rfl, hw⟩; subst w1)
  go_ret3
  exact ⟨rfl, rfl⟩

theorem implReadUe (s : ByteArray) (a z : Nat) (n : Int) (w : World) (hr : rowOkB s = true) (hc : Counted s a z n) :
    Calls Try.prog 17 #[.string s, .int .i64 a] w fun e w' => e = .returned (.tuple #[.int .i64 n, .int .i64 ((a : Int) + (z : Int) + ((z : Int) + 1)), .bool true]) ∧ w' = w := by
  have HA : Hid (Calls Try.prog 37 #[.int .i64 0, .string s, .int .i64 a] w fun e w' => e = .returned (.tuple #[.int .i64 n, .int .i64 ((a : Int) + (z : Int) + ((z : Int) + 1)), .bool true]) ∧ w' = w) := implCount 0 (fun u => u) s a z n w opens_ue hr hc
  clear hr hc
  go_enter Try.func17, Try.ntmps17
  go_wp2_with (go_at_call 37; refine HA.out.mono ?_; rintro e w1 ⟨rfl, hw⟩; subst w1)
  go_ret3
  exact ⟨rfl, rfl⟩
theorem implReadUe_no (s : ByteArray) (a : Int) (w : World) (hm : s.size ≤ maxLen) (h : CountNo s a) :
    Calls Try.prog 17 #[.string s, .int .i64 a] w fun e w' => e = .returned (.tuple #[.int .i64 0, .int .i64 0, .bool false]) ∧ w' = w := by
  have HA : Hid (Calls Try.prog 37 #[.int .i64 0, .string s, .int .i64 a] w fun e w' => e = .returned (.tuple #[.int .i64 0, .int .i64 0, .bool false]) ∧ w' = w) := implCount_no 0 s a w hm opens_ue_no h
  clear h
  go_enter Try.func17, Try.ntmps17
  go_wp2_with (go_at_call 37; refine HA.out.mono ?_; rintro e w1 ⟨rfl, hw⟩; subst w1)
  go_ret3
  exact ⟨rfl, rfl⟩
set_option maxHeartbeats 1000000 in
theorem specReadUe (s : ByteArray) (a z : Nat) (n : Int) (w : World) (hr : rowOkB s = true) (hc : Counted s a z n) :
    Calls Try.prog 25 #[.string s, .int .i64 a] w fun e w' => e = .returned (.tuple #[.int .i64 n, .int .i64 ((a : Int) + (z : Int) + ((z : Int) + 1)), .bool true]) ∧ w' = w := by
  have HA : Hid (Calls Try.prog 44 #[.string s, .int .i64 a] w fun e w' => e = .returned (.tuple #[.int .i64 n, .int .i64 ((a : Int) + (z : Int) + ((z : Int) + 1)), .bool true]) ∧ w' = w) := specReadAt s a z n w hr hc
  have h4 := (rowOkB_true s hr).1
  have hm : s.size ≤ maxLen := by unfold maxLen; omega
  have hlt := hc.first.lt
  have i1 : (decide ((0 : Int) ≤ (a : Int)) && decide ((a : Int) ≤ (s.size : Int))) = true := by simp; omega
  have c0 : (a : Int) ≤ (s.size : Int) := by omega
  clear hc hlt h4
  go_enter Try.func25, Try.ntmps25
  go_wp2_with (first
    | (go_at_call 43; refine (specRowOk s w hm).mono ?_; rintro e w1 ⟨rfl, hw⟩; subst w1)
    | (go_at_call 41; refine (in_any _ _ _ _).mono ?_; rintro e w1 ⟨rfl, hw⟩; subst w1)
    | (go_at_call 44; refine HA.out.mono ?_; rintro e w1 ⟨rfl, hw⟩; subst w1))
  go_ret3
  exact ⟨rfl, rfl⟩
set_option maxHeartbeats 1000000 in
theorem specReadUe_no (s : ByteArray) (a : Int) (w : World) (hm : s.size ≤ maxLen) (h : CountNo s a) :
    Calls Try.prog 25 #[.string s, .int .i64 a] w fun e w' => e = .returned (.tuple #[.int .i64 0, .int .i64 0, .bool false]) ∧ w' = w := by
  cases hr : rowOkB s with
  | false =>
    clear h
    go_enter Try.func25, Try.ntmps25
    go_wp2_with (first
      | (go_at_call 43; refine (specRowOk s w hm).mono ?_; rintro e w1 ⟨rfl, hw⟩; subst w1)
      | (go_at_call 41; refine (in_any _ _ _ _).mono ?_; rintro e w1 ⟨rfl, hw⟩; subst w1))
    go_ret3
    exact ⟨rfl, rfl⟩
  | true =>
    have h4 := (rowOkB_true s hr).1
    have h4' : (s.size : Int) ≤ 400000 := by omega
    by_cases c1 : a < 0 ∨ (s.size : Int) < a
    · have i1 : (decide ((0 : Int) ≤ a) && decide (a ≤ (s.size : Int))) = false := by simp; omega
      clear c1 h
      go_enter Try.func25, Try.ntmps25
      go_wp2_with (first
        | (go_at_call 43; refine (specRowOk s w hm).mono ?_; rintro e w1 ⟨rfl, hw⟩; subst w1)
        | (go_at_call 41; refine (in_any _ _ _ _).mono ?_; rintro e w1 ⟨rfl, hw⟩; subst w1))
      go_ret3
      exact ⟨rfl, rfl⟩
    · have i1 : (decide ((0 : Int) ≤ a) && decide (a ≤ (s.size : Int))) = true := by simp; omega
      obtain ⟨b, rfl⟩ := Int.eq_ofNat_of_zero_le (show 0 ≤ a by omega)
      have HA : Hid (Calls Try.prog 44 #[.string s, .int .i64 b] w fun e w' => e = .returned (.tuple #[.int .i64 0, .int .i64 0, .bool false]) ∧ w' = w) := specReadAtNo s b w hr (by omega) (h hr b rfl)
      have c0 : (b : Int) ≤ (s.size : Int) := by omega
      clear c1 h
      go_enter Try.func25, Try.ntmps25
      go_wp2_with (first
        | (go_at_call 43; refine (specRowOk s w hm).mono ?_; rintro e w1 ⟨rfl, hw⟩; subst w1)
        | (go_at_call 41; refine (in_any _ _ _ _).mono ?_; rintro e w1 ⟨rfl, hw⟩; subst w1)
        | (go_at_call 44; refine HA.out.mono ?_; rintro e w1 ⟨rfl, hw⟩; subst w1))
      go_ret3
      exact ⟨rfl, rfl⟩

theorem implReadSe (s : ByteArray) (a z : Nat) (n : Int) (w : World) (hr : rowOkB s = true) (hc : Counted s a z n) :
    Calls Try.prog 20 #[.string s, .int .i64 a] w fun e w' => e = .returned (.tuple #[.int .i64 (seO n), .int .i64 ((a : Int) + (z : Int) + ((z : Int) + 1)), .bool true]) ∧ w' = w := by
  have HA : Hid (Calls Try.prog 37 #[.int .i64 1, .string s, .int .i64 a] w fun e w' => e = .returned (.tuple #[.int .i64 (seO n), .int .i64 ((a : Int) + (z : Int) + ((z : Int) + 1)), .bool true]) ∧ w' = w) := implCount 1 seO s a z n w opens_se hr hc
  clear hr hc
  go_enter Try.func20, Try.ntmps20
  go_wp2_with (go_at_call 37; refine HA.out.mono ?_; rintro e w1 ⟨rfl, hw⟩; subst w1)
  go_ret3
  exact ⟨rfl, rfl⟩
theorem implReadSe_no (s : ByteArray) (a : Int) (w : World) (hm : s.size ≤ maxLen) (h : CountNo s a) :
    Calls Try.prog 20 #[.string s, .int .i64 a] w fun e w' => e = .returned (.tuple #[.int .i64 0, .int .i64 0, .bool false]) ∧ w' = w := by
  have HA : Hid (Calls Try.prog 37 #[.int .i64 1, .string s, .int .i64 a] w fun e w' => e = .returned (.tuple #[.int .i64 0, .int .i64 0, .bool false]) ∧ w' = w) := implCount_no 1 s a w hm opens_se_no h
  clear h
  go_enter Try.func20, Try.ntmps20
  go_wp2_with (go_at_call 37; refine HA.out.mono ?_; rintro e w1 ⟨rfl, hw⟩; subst w1)
  go_ret3
  exact ⟨rfl, rfl⟩
set_option maxHeartbeats 1000000 in
theorem specReadSe (s : ByteArray) (a z : Nat) (n : Int) (w : World) (hr : rowOkB s = true) (hc : Counted s a z n) :
    Calls Try.prog 29 #[.string s, .int .i64 a] w fun e w' => e = .returned (.tuple #[.int .i64 (seO n), .int .i64 ((a : Int) + (z : Int) + ((z : Int) + 1)), .bool true]) ∧ w' = w := by
  have HA : Hid (Calls Try.prog 46 #[.string s, .int .i64 a] w fun e w' => e = .returned (.tuple #[.int .i64 (seO n), .int .i64 ((a : Int) + (z : Int) + ((z : Int) + 1)), .bool true]) ∧ w' = w) := specSeAt s a z n w hr hc
  have h4 := (rowOkB_true s hr).1
  have hm : s.size ≤ maxLen := by unfold maxLen; omega
  have hlt := hc.first.lt
  have i1 : (decide ((0 : Int) ≤ (a : Int)) && decide ((a : Int) ≤ (s.size : Int))) = true := by simp; omega
  have c0 : (a : Int) ≤ (s.size : Int) := by omega
  clear hc hlt h4
  go_enter Try.func29, Try.ntmps29
  go_wp2_with (first
    | (go_at_call 43; refine (specRowOk s w hm).mono ?_; rintro e w1 ⟨rfl, hw⟩; subst w1)
    | (go_at_call 41; refine (in_any _ _ _ _).mono ?_; rintro e w1 ⟨rfl, hw⟩; subst w1)
    | (go_at_call 46; refine HA.out.mono ?_; rintro e w1 ⟨rfl, hw⟩; subst w1))
  go_ret3
  exact ⟨rfl, rfl⟩
set_option maxHeartbeats 1000000 in
theorem specReadSe_no (s : ByteArray) (a : Int) (w : World) (hm : s.size ≤ maxLen) (h : CountNo s a) :
    Calls Try.prog 29 #[.string s, .int .i64 a] w fun e w' => e = .returned (.tuple #[.int .i64 0, .int .i64 0, .bool false]) ∧ w' = w := by
  cases hr : rowOkB s with
  | false =>
    clear h
    go_enter Try.func29, Try.ntmps29
    go_wp2_with (first
      | (go_at_call 43; refine (specRowOk s w hm).mono ?_; rintro e w1 ⟨rfl, hw⟩; subst w1)
      | (go_at_call 41; refine (in_any _ _ _ _).mono ?_; rintro e w1 ⟨rfl, hw⟩; subst w1))
    go_ret3
    exact ⟨rfl, rfl⟩
  | true =>
    have h4 := (rowOkB_true s hr).1
    have h4' : (s.size : Int) ≤ 400000 := by omega
    by_cases c1 : a < 0 ∨ (s.size : Int) < a
    · have i1 : (decide ((0 : Int) ≤ a) && decide (a ≤ (s.size : Int))) = false := by simp; omega
      clear c1 h
      go_enter Try.func29, Try.ntmps29
      go_wp2_with (first
        | (go_at_call 43; refine (specRowOk s w hm).mono ?_; rintro e w1 ⟨rfl, hw⟩; subst w1)
        | (go_at_call 41; refine (in_any _ _ _ _).mono ?_; rintro e w1 ⟨rfl, hw⟩; subst w1))
      go_ret3
      exact ⟨rfl, rfl⟩
    · have i1 : (decide ((0 : Int) ≤ a) && decide (a ≤ (s.size : Int))) = true := by simp; omega
      obtain ⟨b, rfl⟩ := Int.eq_ofNat_of_zero_le (show 0 ≤ a by omega)
      have HA : Hid (Calls Try.prog 46 #[.string s, .int .i64 b] w fun e w' => e = .returned (.tuple #[.int .i64 0, .int .i64 0, .bool false]) ∧ w' = w) := specSeAtNo s b w hr (by omega) (h hr b rfl)
      have c0 : (b : Int) ≤ (s.size : Int) := by omega
      clear c1 h
      go_enter Try.func29, Try.ntmps29
      go_wp2_with (first
        | (go_at_call 43; refine (specRowOk s w hm).mono ?_; rintro e w1 ⟨rfl, hw⟩; subst w1)
        | (go_at_call 41; refine (in_any _ _ _ _).mono ?_; rintro e w1 ⟨rfl, hw⟩; subst w1)
        | (go_at_call 46; refine HA.out.mono ?_; rintro e w1 ⟨rfl, hw⟩; subst w1))
      go_ret3
      exact ⟨rfl, rfl⟩

end Go.Proofs.Ytppafgkdilpkgaa
