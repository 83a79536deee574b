/-
  The walk of spec.l03ReadUe: a counted number out of what is known to be a row.
-/
import Derived.Test.YtlejfkjanllgbaaDoorCountRead
namespace Go.Proofs.YtlejfkjanllgbaaDoor
open Go.RowKit
set_option linter.unusedVariables false
set_option maxRecDepth 20000

set_option maxHeartbeats 1000000 in
theorem specReadAt (s : ByteArray) (a z : Nat) (n : Int) (w : World) (hr : rowOkB s = true) (hc : Counted s a z n) :
    Calls Tryd.prog 94 #[.string s, .int .i64 a] w fun e w' => e = .returned (.tuple #[.int .i64 n, .int .i64 ((a : Int) + (z : Int) + ((z : Int) + 1)), .bool true]) ∧ w' = w := by
  have h4 := (rowOkB_true s hr).1
  have hrow := (rowOkB_true s hr).2
  have hlt := hc.first.lt
  have hf := hc.fits
  have hn := hc.num
  have ht := hc.top
  have hz := hc.z20
  have h1 := readN_first s (a + z) hc.first.one z (by omega) hrow
  have hp : (1 : Int) ≤ 2 ^ z := Int.pow_pos (by decide)
  have hpb := pow_bd z (by omega)
  have hrd := specRead s (a + z) (z + 1) w hr (by omega) (by omega)
  rw [hn] at hrd h1
  have HA : Hid (Calls Tryd.prog 116 #[.string s, .int .i64 ((a : Int) + (z : Int)), .int .i64 ((z : Int) + 1)] w fun e w' => e = .returned (.tuple #[.int .i64 (n + 1), .int .i64 ((a : Int) + (z : Int) + ((z : Int) + 1)), .bool true]) ∧ w' = w) := by
    refine hrd.mono ?_
    rintro e w1 ⟨rfl, rfl⟩
    exact ⟨by simp, rfl⟩
  have HZ : Hid (∀ j, j < z → bAt s (a + j) = 48) := hc.first.zero
  have HO : Hid (bAt s (a + z) = 49) := hc.first.one
  have c1 : (a : Int) + (z : Int) < (s.size : Int) := by omega
  have c2 : (s.size : Int) ≤ 400000 := by omega
  have c3 : (z : Int) ≤ 20 := by omega
  obtain ⟨p, hpp⟩ : ∃ p : Int, (2 : Int) ^ z = p := ⟨_, rfl⟩
  rw [hpp] at h1 hp hpb
  obtain ⟨_, hpb2⟩ := hpb
  clear hc hn hf hlt h4 hr hrow hrd hz
  go_enter Tryd.func94, Tryd.ntmps94
  go_wp2
  go_loopw [7] (fun i wr => ∃ j : Nat, j ≤ z ∧ i = .int .i64 (j : Int) ∧ wr = w)
    (fun i _ => z - (intOf i).toNat)
  case atStart => exact ⟨0, Nat.zero_le _, rfl, rfl⟩
  case round =>
    obtain ⟨j, hj, rfl, rfl⟩ := hrel
    have hjs : a + j < s.size := by omega
    have HX : Hid ((s[a + j].toNat : Int) = bAt s (a + j)) := bAt_eq s (a + j) hjs
    by_cases hlt : j < z
    · have hq : (j : Int) < (z : Int) := by omega
      have hq1 : ((s[a + j].toNat : Int) == 48) = true := by rw [HX.out, HZ.out j hlt]; rfl
      go_wp2
      go_roundw
      case rel => exact ⟨j + 1, by omega, by go_num, trivial⟩
      case measure => simp [intOf]; omega
    · obtain rfl : j = z := by omega
      have hq1 : ((s[a + j].toNat : Int) == 48) = false := by rw [HX.out, HO.out]; rfl
      go_wp2_with (go_at_call 116; refine HA.out.mono ?_; rintro e w1 ⟨rfl, hw⟩; subst w1)
      go_ret3
      exact ⟨rfl, rfl⟩

/-- What spec.l02Read answers behind the loop where no counted number stands: it refuses, or the number is too small or too great. -/
theorem specReadStop (s : ByteArray) (a j : Nat) (w : World) (hr : rowOkB s = true) (hj : j ≤ 21) (ha : (a : Int) + (j : Int) ≤ (s.size : Int)) (h : CountedNot s a) (hz : ∀ i, i < j → bAt s (a + i) = 48)
    (hs : a + j = s.size ∨ (a + j < s.size ∧ bAt s (a + j) = 49) ∨ (a + j < s.size ∧ bAt s (a + j) = 48)) :
    (Calls Tryd.prog 116 #[.string s, .int .i64 ((a : Int) + (j : Int)), .int .i64 ((j : Int) + 1)] w fun e w' => e = .returned (.tuple #[.int .i64 0, .int .i64 0, .bool false]) ∧ w' = w) ∨
    ∃ m : Int, 0 ≤ m ∧ m < 1073741824 ∧ (m < 2 ^ j ∨ (2 ^ j ≤ m ∧ 1000000 < m - 1)) ∧ (Calls Tryd.prog 116 #[.string s, .int .i64 ((a : Int) + (j : Int)), .int .i64 ((j : Int) + 1)] w fun e w' => e = .returned (.tuple #[.int .i64 m, .int .i64 ((a : Int) + (j : Int) + ((j : Int) + 1)), .bool true]) ∧ w' = w) := by
  have h4 := (rowOkB_true s hr).1
  have hrow := (rowOkB_true s hr).2
  by_cases hfit : a + j + (j + 1) ≤ s.size
  · refine .inr ⟨readN s (a + j) (j + 1), (readN_bd s (a + j) (j + 1) hrow (by omega) (by omega)).1, (readN_bd s (a + j) (j + 1) hrow (by omega) (by omega)).2, ?_, ?_⟩
    · rcases hs with hs | ⟨hs, h49⟩ | ⟨hs, h48⟩
      · omega
      · have := counted_big s a j hrow ⟨hs, h49, hz⟩ hfit h
        exact .inr ⟨this.2, this.1⟩
      · exact .inl (readN_zero s (a + j) h48 j (by omega) hrow)
    · refine (specRead s (a + j) (j + 1) w hr (by omega) (by omega)).mono ?_
      rintro e w1 ⟨rfl, rfl⟩
      exact ⟨by simp, rfl⟩
  · exact .inl (specRead_no s (a + j) (j + 1) w (by omega) (by omega) (by omega) (by omega))

set_option maxHeartbeats 1000000 in
theorem specReadAtNo (s : ByteArray) (a : Nat) (w : World) (hr : rowOkB s = true) (ha : (a : Int) ≤ (s.size : Int)) (h : CountedNot s a) :
    Calls Tryd.prog 94 #[.string s, .int .i64 a] w fun e w' => e = .returned (.tuple #[.int .i64 0, .int .i64 0, .bool false]) ∧ w' = w := by
  have HS : Hid (∀ (j : Nat), j ≤ 21 → (a : Int) + (j : Int) ≤ (s.size : Int) → (∀ i, i < j → bAt s (a + i) = 48) →
      (a + j = s.size ∨ (a + j < s.size ∧ bAt s (a + j) = 49) ∨ (a + j < s.size ∧ bAt s (a + j) = 48)) →
    (Calls Tryd.prog 116 #[.string s, .int .i64 ((a : Int) + (j : Int)), .int .i64 ((j : Int) + 1)] w fun e w' => e = .returned (.tuple #[.int .i64 0, .int .i64 0, .bool false]) ∧ w' = w) ∨
    ∃ m : Int, 0 ≤ m ∧ m < 1073741824 ∧ (m < 2 ^ j ∨ (2 ^ j ≤ m ∧ 1000000 < m - 1)) ∧ (Calls Tryd.prog 116 #[.string s, .int .i64 ((a : Int) + (j : Int)), .int .i64 ((j : Int) + 1)] w fun e w' => e = .returned (.tuple #[.int .i64 m, .int .i64 ((a : Int) + (j : Int) + ((j : Int) + 1)), .bool true]) ∧ w' = w)) :=
    fun j hj ha hz hs => specReadStop s a j w hr hj ha h hz hs
  have h4 := (rowOkB_true s hr).1
  have HR : Hid (rowB s = true) := (rowOkB_true s hr).2
  have c2 : (s.size : Int) ≤ 400000 := by omega
  clear hr h4 h
  go_enter Tryd.func94, Tryd.ntmps94
  go_wp2
  go_loopw [7] (fun i wr => ∃ j : Nat, j ≤ 21 ∧ (a : Int) + (j : Int) ≤ (s.size : Int) ∧ i = .int .i64 (j : Int) ∧ Hid (∀ i, i < j → bAt s (a + i) = 48) ∧ wr = w)
    (fun i _ => 21 - (intOf i).toNat)
  case atStart => exact ⟨0, Nat.zero_le _, by omega, rfl, (fun i hi => by omega : ∀ i, i < 0 → bAt s (a + i) = 48), rfl⟩
  case round =>
    obtain ⟨j, hj, haj, rfl, HZ, rfl⟩ := hrel
    have hj' : (j : Int) ≤ 21 := by omega
    obtain ⟨p, hpp⟩ : ∃ p : Int, (2 : Int) ^ j = p := ⟨_, rfl⟩
    have hpb := pow_bd j (by omega)
    rw [hpp] at hpb
    obtain ⟨hp1, hp2⟩ := hpb
    by_cases e1 : a + j = s.size
    · have e1' : (s.size : Int) ≤ (a : Int) + (j : Int) := by omega
      have hst := HS.out j hj haj HZ.out (.inl e1)
      rw [hpp] at hst
      rcases hst with hst | ⟨m, m0, m1, hm, hst⟩
      · have HA : Hid (Calls Tryd.prog 116 #[.string s, .int .i64 ((a : Int) + (j : Int)), .int .i64 ((j : Int) + 1)] wr fun e w' => e = .returned (.tuple #[.int .i64 0, .int .i64 0, .bool false]) ∧ w' = wr) := hst
        clear hst e1
        go_wp2_with (go_at_call 116; refine HA.out.mono ?_; rintro e w1 ⟨rfl, hw⟩; subst w1)
        go_ret3
        exact ⟨rfl, rfl⟩
      · have HA : Hid (Calls Tryd.prog 116 #[.string s, .int .i64 ((a : Int) + (j : Int)), .int .i64 ((j : Int) + 1)] wr fun e w' => e = .returned (.tuple #[.int .i64 m, .int .i64 ((a : Int) + (j : Int) + ((j : Int) + 1)), .bool true]) ∧ w' = wr) := hst
        clear hst e1
        rcases hm with hm | ⟨hm, hm'⟩
        all_goals
          go_wp2_with (go_at_call 116; refine HA.out.mono ?_; rintro e w1 ⟨rfl, hw⟩; subst w1)
          go_ret3
          exact ⟨rfl, rfl⟩
    · have hjs : a + j < s.size := by omega
      have haj' : (a : Int) + (j : Int) < (s.size : Int) := by omega
      have HX : Hid ((s[a + j].toNat : Int) = bAt s (a + j)) := bAt_eq s (a + j) hjs
      have hb := rowB_bit s HR.out (a + j) hjs
      unfold bitAt at hb
      by_cases e2 : j < 21 ∧ bAt s (a + j) = 48
      · have HB : Hid (bAt s (a + j) = 48) := e2.2
        have hq : (j : Int) < 21 := by omega
        have hq1 : ((s[a + j].toNat : Int) == 48) = true := by rw [HX.out, HB.out]; rfl
        clear e2 hb e1
        go_wp2
        go_roundw
        case rel => exact ⟨j + 1, by omega, by omega, by go_num, (fun i hi => by rcases Nat.lt_succ_iff_lt_or_eq.1 hi with h | rfl; exact HZ.out i h; exact HB.out : ∀ i, i < j + 1 → bAt s (a + i) = 48), trivial⟩
        case measure => simp [intOf]; omega
      · have hst := HS.out j hj haj HZ.out (by rcases hb with hb | hb; exact .inr (.inr ⟨hjs, hb⟩); exact .inr (.inl ⟨hjs, hb⟩))
        rw [hpp] at hst
        have hq : 21 ≤ (j : Int) ∨ ((s[a + j].toNat : Int) == 48) = false := by
          rcases hb with hb | hb
          · left; omega
          · right; rw [HX.out, hb]; rfl
        clear e2 hb e1
        rcases hst with hst | ⟨m, m0, m1, hm, hst⟩
        · have HA : Hid (Calls Tryd.prog 116 #[.string s, .int .i64 ((a : Int) + (j : Int)), .int .i64 ((j : Int) + 1)] wr fun e w' => e = .returned (.tuple #[.int .i64 0, .int .i64 0, .bool false]) ∧ w' = wr) := hst
          clear hst
          cases hv : ((s[a + j].toNat : Int) == 48) with
          | false =>
            clear hq
            go_wp2_with (go_at_call 116; refine HA.out.mono ?_; rintro e w1 ⟨rfl, hw⟩; subst w1)
            go_ret3
            exact ⟨rfl, rfl⟩
          | true =>
            have hq' : 21 ≤ (j : Int) := by rcases hq with hq | hq; exact hq; rw [hv] at hq; cases hq
            clear hq
            go_wp2_with (go_at_call 116; refine HA.out.mono ?_; rintro e w1 ⟨rfl, hw⟩; subst w1)
            go_ret3
            exact ⟨rfl, rfl⟩
        · have HA : Hid (Calls Tryd.prog 116 #[.string s, .int .i64 ((a : Int) + (j : Int)), .int .i64 ((j : Int) + 1)] wr fun e w' => e = .returned (.tuple #[.int .i64 m, .int .i64 ((a : Int) + (j : Int) + ((j : Int) + 1)), .bool true]) ∧ w' = wr) := hst
          clear hst
          cases hv : ((s[a + j].toNat : Int) == 48) with
          | false =>
            clear hq
            rcases hm with hm | ⟨hm, hm'⟩
            all_goals
              go_wp2_with (go_at_call 116; refine HA.out.mono ?_; rintro e w1 ⟨rfl, hw⟩; subst w1)
              go_ret3
              exact ⟨rfl, rfl⟩
          | true =>
            have hq' : 21 ≤ (j : Int) := by rcases hq with hq | hq; exact hq; rw [hv] at hq; cases hq
            clear hq
            rcases hm with hm | ⟨hm, hm'⟩
            all_goals
              go_wp2_with (go_at_call 116; refine HA.out.mono ?_; rintro e w1 ⟨rfl, hw⟩; subst w1)
              go_ret3
              exact ⟨rfl, rfl⟩
end Go.Proofs.YtlejfkjanllgbaaDoor
