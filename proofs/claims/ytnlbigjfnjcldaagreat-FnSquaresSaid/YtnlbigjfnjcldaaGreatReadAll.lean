/-
  The walk of spec.l02Read: a number out of what is known to be a row.
  The walks of impl's countKind.readAt and read, and of spec.l03ReadUe: a counted number out of a row.
  The walk of spec.l03ReadUe: a counted number out of what is known to be a row.
  The walks of ReadUe and ReadSe, of impl and of spec.
  Reading runs off a row: what comes, round by round; behind the first fault all is none.
  impl.levelOk, impl.runAt.
  spec.l11Read, spec.ReadRuns.
  spec.ReadRuns.
  impl.runsAt.
  What is put into a row as runs is read back, wherever it stands; noughts alone take one sign.
-/
import Derived.Test.YtnlbigjfnjcldaaGreatRowAll
import Derived.Test.YtnlbigjfnjcldaaGreatRowWalks
import Derived.Test.YtnlbigjfnjcldaaGreatReadMath
import Derived.Test.YtnlbigjfnjcldaaGreatShelf
import Derived.Test.YtnlbigjfnjcldaaGreatCountAll
import Derived.Test.YtnlbigjfnjcldaaGreatReadAt
import Derived.Test.YtnlbigjfnjcldaaGreatRunAll
import Derived.Test.YtnlbigjfnjcldaaGreatBlkKit
import Derived.Deep.RegionWith
import Derived.Test.YtnlbigjfnjcldaaGreatIntAll
import Derived.Test.YtnlbigjfnjcldaaGreatInKit
set_option maxRecDepth 20000
namespace Go.Proofs.YtnlbigjfnjcldaaGreat
open Go.RowKit
set_option linter.unusedVariables false
set_option maxRecDepth 20000

set_option maxHeartbeats 1000000 in
theorem specRead (s : ByteArray) (a k : Nat) (w : World) (hr : rowOkB s = true) (hk : (k : Int) ≤ 30) (hak : (a : Int) + (k : Int) ≤ (s.size : Int)) :
    Calls Tryz.prog 69 #[.string s, .int .i64 a, .int .i64 k] w fun e w' => e = .returned (.tuple #[.int .i64 (readN s a k), .int .i64 ((a : Int) + (k : Int)), .bool true]) ∧ w' = w := by
  obtain ⟨h4, hrow⟩ := rowOkB_true s hr
  have h4' : (s.size : Int) ≤ 400000 := by omega
  have HR : Hid (rowB s = true) := hrow
  clear hrow
  go_enter Tryz.func69, Tryz.ntmps69
  go_wp2
  go_loopw [9, 10] (fun n i wr => ∃ j : Nat, j ≤ k ∧ i = .int .i64 ((a : Int) + (j : Int)) ∧ n = .int .i64 (readN s a j) ∧ wr = w)
    (fun _ i _ => a + k - (intOf i).toNat)
  case atStart => exact ⟨0, Nat.zero_le _, by simp, rfl, rfl⟩
  case round =>
    obtain ⟨j, hj, rfl, rfl, rfl⟩ := hrel
    have hbd := readN_bd s a j HR.out (by omega) (by omega)
    by_cases hlt : j < k
    · have HS : Hid (readN s a (j + 1) = 2 * readN s a j + (bAt s (a + j) - 48)) := rfl
      have HX : Hid ((s[a + j].toNat : Int) = bAt s (a + j)) := bAt_eq s (a + j) (by omega)
      have hbit : 48 ≤ (s[a + j].toNat : Int) ∧ (s[a + j].toNat : Int) ≤ 49 := by
        have := rowB_bit s HR.out (a + j) (by omega); unfold bitAt at this; rw [← HX.out] at this; omega
      generalize readN s a j = n at *
      have hq : (j : Int) < (k : Int) := by omega
      go_wp2
      go_roundw
      case rel => exact ⟨j + 1, by omega, by go_num, by rw [HS.out, ← HX.out]; congr 1; omega, trivial⟩
      case measure => simp [intOf]; omega
    · obtain rfl : j = k := by omega
      go_wp2
      go_ret3
      exact ⟨rfl, rfl⟩

set_option maxHeartbeats 1000000 in
theorem specRead_no (s : ByteArray) (a k : Nat) (w : World) (h4 : (s.size : Int) ≤ 400000) (ha : (a : Int) ≤ (s.size : Int)) (hk : (k : Int) ≤ 30) (hak : (s.size : Int) - (a : Int) < (k : Int)) :
    Calls Tryz.prog 69 #[.string s, .int .i64 a, .int .i64 k] w fun e w' => e = .returned (.tuple #[.int .i64 0, .int .i64 0, .bool false]) ∧ w' = w := by
  go_enter Tryz.func69, Tryz.ntmps69
  go_wp2
  go_ret3
  exact ⟨rfl, rfl⟩
end Go.Proofs.YtnlbigjfnjcldaaGreat

namespace Go.Proofs.YtnlbigjfnjcldaaGreat
open Go.RowKit
set_option linter.unusedVariables false

/-- A kind opens what is counted, and refuses what is above it. -/
abbrev Opens (k : Int) (f : Int → Int) : Prop := ∀ (u : Int) (w : World), 0 ≤ u → u ≤ 1000000 → Calls Tryz.prog 77 #[.int .i64 k, .int .i64 u] w fun e w' => e = .returned (.tuple #[.int .i64 (f u), .bool true]) ∧ w' = w
abbrev OpensNot (k : Int) : Prop := ∀ (u : Int) (w : World), 1000000 < u → Calls Tryz.prog 77 #[.int .i64 k, .int .i64 u] w fun e w' => e = .returned (.tuple #[.int .i64 0, .bool false]) ∧ w' = w

theorem index_any (s : ByteArray) (w : World) :
    Calls Tryz.prog 75 #[.string s, .int .u8 49] w fun e w' => e = .returned (.int .i64 (Lib.indexByte s.data.toList 49)) ∧ w' = w := Tryz.strings_IndexByte s 49 w

set_option maxHeartbeats 1000000 in
theorem implReadAt (k : Int) (f : Int → Int) (s : ByteArray) (a z : Nat) (n : Int) (w : World) (ho : Opens k f) (hr : rowOkB s = true) (hc : Counted s a z n) :
    Calls Tryz.prog 65 #[.int .i64 k, .string s, .int .i64 a] w fun e w' => e = .returned (.tuple #[.int .i64 (f n), .int .i64 ((a : Int) + (z : Int) + ((z : Int) + 1)), .bool true]) ∧ w' = w := by
  have h4 := (rowOkB_true s hr).1
  have hrow := (rowOkB_true s hr).2
  have hlt := hc.first.lt
  have hf := hc.fits
  have hn := hc.num
  have ht := hc.top
  have hz := hc.z20
  have h1 := readN_first s (a + z) hc.first.one z (by omega) hrow
  have hp : (1 : Int) ≤ 2 ^ z := Int.pow_pos (by decide)
  have hn0 : 0 ≤ n := by omega
  have hi : Lib.indexByte (s.extract a s.size).data.toList 49 = (z : Int) := by
    have hge := Lib.indexByte_ge (s.extract a s.size).data.toList 49
    by_cases c : Lib.indexByte (s.extract a s.size).data.toList 49 = -1
    · exact absurd hc.first (index_none s a hrow c z)
    · obtain ⟨y, hy⟩ := Int.eq_ofNat_of_zero_le (show 0 ≤ Lib.indexByte (s.extract a s.size).data.toList 49 by omega)
      have := (index_first s a y hrow hy).uniq hc.first
      omega
  have hat := implAt s (a + z) (z + 1) w hr (by omega) (by omega)
  rw [hn] at hat
  have HO : Hid (Opens k f) := ho
  have HI : Hid (Lib.indexByte (s.extract a s.size).data.toList 49 = (z : Int)) := hi
  have HA : Hid (Calls Tryz.prog 76 #[.string s, .int .i64 ((a : Int) + (z : Int)), .int .i64 ((z : Int) + 1)] w fun e w' => e = .returned (.tuple #[.int .i64 (n + 1), .int .i64 ((a : Int) + (z : Int) + ((z : Int) + 1)), .bool true]) ∧ w' = w) := by
    refine hat.mono ?_
    rintro e w1 ⟨rfl, rfl⟩
    exact ⟨by simp, rfl⟩
  have c1 : (a : Int) + (z : Int) < (s.size : Int) := by omega
  have c2 : (s.size : Int) ≤ 400000 := by omega
  clear hc hn hf hlt h4 hr hrow ho hi hat h1 hp
  go_enter Tryz.func65, Tryz.ntmps65
  go_wp2_with (first
    | (go_at_call 75; refine (index_any _ _).mono ?_; rintro e w1 ⟨rfl, hw⟩; subst w1; rw [HI.out])
    | (go_at_call 76; refine HA.out.mono ?_; rintro e w1 ⟨rfl, hw⟩; subst w1)
    | (go_at_call 77; refine (HO.out _ _ (by omega) (by omega)).mono ?_; rintro e w1 ⟨rfl, hw⟩; subst w1))
  go_ret3
  exact ⟨rfl, rfl⟩

/-- No counted number stands at a. -/
abbrev CountedNot (s : ByteArray) (a : Nat) : Prop := ∀ z n, ¬ Counted s a z n
theorem counted_big (s : ByteArray) (a z : Nat) (hr : rowB s = true) (hf : First s a z) (hfit : a + z + (z + 1) ≤ s.size) (h : CountedNot s a) : 1000000 < readN s (a + z) (z + 1) - 1 ∧ (2 : Int) ^ z ≤ readN s (a + z) (z + 1) := by
  have h1 := readN_first s (a + z) hf.one z (by omega) hr
  refine ⟨?_, h1⟩
  by_cases c : readN s (a + z) (z + 1) - 1 ≤ 1000000
  · exfalso
    have hz : z ≤ 20 := by
      by_cases d : z ≤ 20
      · exact d
      · have := pow_le (a := 21) (b := z) (by omega)
        have e : (2 : Int) ^ 21 = 2097152 := by decide
        omega
    exact h z (readN s (a + z) (z + 1) - 1) ⟨hf, hz, hfit, by omega, c⟩
  · omega

set_option maxHeartbeats 1000000 in
theorem implReadAtNo (k : Int) (s : ByteArray) (a : Nat) (w : World) (ho : OpensNot k) (hr : rowOkB s = true) (ha : (a : Int) ≤ (s.size : Int)) (h : CountedNot s a) :
    Calls Tryz.prog 65 #[.int .i64 k, .string s, .int .i64 a] w fun e w' => e = .returned (.tuple #[.int .i64 0, .int .i64 0, .bool false]) ∧ w' = w := by
  have h4 := (rowOkB_true s hr).1
  have hrow := (rowOkB_true s hr).2
  have c2 : (s.size : Int) ≤ 400000 := by omega
  have hge := Lib.indexByte_ge (s.extract a s.size).data.toList 49
  by_cases c : Lib.indexByte (s.extract a s.size).data.toList 49 = -1
  · have HI : Hid (Lib.indexByte (s.extract a s.size).data.toList 49 = -1) := c
    clear c hge h4 hrow ho h hr
    go_enter Tryz.func65, Tryz.ntmps65
    go_wp2_with (go_at_call 75; refine (index_any _ _).mono ?_; rintro e w1 ⟨rfl, hw⟩; subst w1; rw [HI.out])
    go_ret3
    exact ⟨rfl, rfl⟩
  · obtain ⟨z, hz⟩ := Int.eq_ofNat_of_zero_le (show 0 ≤ Lib.indexByte (s.extract a s.size).data.toList 49 by omega)
    have hf := index_first s a z hrow hz
    have hlt := hf.lt
    have c1 : (a : Int) + (z : Int) < (s.size : Int) := by omega
    have HI : Hid (Lib.indexByte (s.extract a s.size).data.toList 49 = (z : Int)) := hz
    by_cases d : 30 < (z : Int) + 1 ∨ (s.size : Int) - ((a : Int) + (z : Int)) < (z : Int) + 1
    · have HA : Hid (Calls Tryz.prog 76 #[.string s, .int .i64 ((a : Int) + (z : Int)), .int .i64 ((z : Int) + 1)] w fun e w' => e = .returned (.tuple #[.int .i64 0, .int .i64 0, .bool false]) ∧ w' = w) := implAtNo s ((a : Int) + (z : Int)) ((z : Int) + 1) w c2 (by omega) (by omega) (.inr d)
      clear c hge h4 hrow ho h hr hz d hf hlt
      go_enter Tryz.func65, Tryz.ntmps65
      go_wp2_with (first
        | (go_at_call 75; refine (index_any _ _).mono ?_; rintro e w1 ⟨rfl, hw⟩; subst w1; rw [HI.out])
        | (go_at_call 76; refine HA.out.mono ?_; rintro e w1 ⟨rfl, hw⟩; subst w1))
      go_ret3
      exact ⟨rfl, rfl⟩
    · have hb := (counted_big s a z hrow hf (by omega) h).1
      have hbd := readN_bd s (a + z) (z + 1) hrow (by omega) (by omega)
      have hat := implAt s (a + z) (z + 1) w hr (by omega) (by omega)
      generalize readN s (a + z) (z + 1) = m at hb hbd hat
      have HO : Hid (OpensNot k) := ho
      have HA : Hid (Calls Tryz.prog 76 #[.string s, .int .i64 ((a : Int) + (z : Int)), .int .i64 ((z : Int) + 1)] w fun e w' => e = .returned (.tuple #[.int .i64 m, .int .i64 ((a : Int) + (z : Int) + ((z : Int) + 1)), .bool true]) ∧ w' = w) := by
        refine hat.mono ?_
        rintro e w1 ⟨rfl, rfl⟩
        exact ⟨by simp, rfl⟩
      obtain ⟨m0, m1⟩ := hbd
      clear c hge h4 hrow ho h hr hz d hf hlt hat
      go_enter Tryz.func65, Tryz.ntmps65
      go_wp2_with (first
        | (go_at_call 75; refine (index_any _ _).mono ?_; rintro e w1 ⟨rfl, hw⟩; subst w1; rw [HI.out])
        | (go_at_call 76; refine HA.out.mono ?_; rintro e w1 ⟨rfl, hw⟩; subst w1)
        | (go_at_call 77; refine (HO.out _ _ (by omega)).mono ?_; rintro e w1 ⟨rfl, hw⟩; subst w1))
      go_ret3
      exact ⟨rfl, rfl⟩

/-- No counted number stands at a, or it is no row. -/
abbrev CountNo (s : ByteArray) (a : Int) : Prop := rowOkB s = true → ∀ b : Nat, a = (b : Int) → CountedNot s b

end Go.Proofs.YtnlbigjfnjcldaaGreat

namespace Go.Proofs.YtnlbigjfnjcldaaGreat
open Go.RowKit
set_option linter.unusedVariables false

set_option maxHeartbeats 1000000 in
theorem specReadAt (s : ByteArray) (a z : Nat) (n : Int) (w : World) (hr : rowOkB s = true) (hc : Counted s a z n) :
    Calls Tryz.prog 60 #[.string s, .int .i64 a] w fun e w' => e = .returned (.tuple #[.int .i64 n, .int .i64 ((a : Int) + (z : Int) + ((z : Int) + 1)), .bool true]) ∧ w' = w := by
  have h4 := (rowOkB_true s hr).1
  have hrow := (rowOkB_true s hr).2
  have hlt := hc.first.lt
  have hf := hc.fits
  have hn := hc.num
  have ht := hc.top
  have hz := hc.z20
  have h1 := readN_first s (a + z) hc.first.one z (by omega) hrow
  have hp : (1 : Int) ≤ 2 ^ z := Int.pow_pos (by decide)
  have hpb := pow_bd z (by omega)
  have hrd := specRead s (a + z) (z + 1) w hr (by omega) (by omega)
  rw [hn] at hrd h1
  have HA : Hid (Calls Tryz.prog 69 #[.string s, .int .i64 ((a : Int) + (z : Int)), .int .i64 ((z : Int) + 1)] w fun e w' => e = .returned (.tuple #[.int .i64 (n + 1), .int .i64 ((a : Int) + (z : Int) + ((z : Int) + 1)), .bool true]) ∧ w' = w) := by
    refine hrd.mono ?_
    rintro e w1 ⟨rfl, rfl⟩
    exact ⟨by simp, rfl⟩
  have HZ : Hid (∀ j, j < z → bAt s (a + j) = 48) := hc.first.zero
  have HO : Hid (bAt s (a + z) = 49) := hc.first.one
  have c1 : (a : Int) + (z : Int) < (s.size : Int) := by omega
  have c2 : (s.size : Int) ≤ 400000 := by omega
  have c3 : (z : Int) ≤ 20 := by omega
  obtain ⟨p, hpp⟩ : ∃ p : Int, (2 : Int) ^ z = p := ⟨_, rfl⟩
  rw [hpp] at h1 hp hpb
  obtain ⟨_, hpb2⟩ := hpb
  clear hc hn hf hlt h4 hr hrow hrd hz
  go_enter Tryz.func60, Tryz.ntmps60
  go_wp2
  go_loopw [7] (fun i wr => ∃ j : Nat, j ≤ z ∧ i = .int .i64 (j : Int) ∧ wr = w)
    (fun i _ => z - (intOf i).toNat)
  case atStart => exact ⟨0, Nat.zero_le _, rfl, rfl⟩
  case round =>
    obtain ⟨j, hj, rfl, rfl⟩ := hrel
    have hjs : a + j < s.size := by omega
    have HX : Hid ((s[a + j].toNat : Int) = bAt s (a + j)) := bAt_eq s (a + j) hjs
    by_cases hlt : j < z
    · have hq : (j : Int) < (z : Int) := by omega
      have hq1 : ((s[a + j].toNat : Int) == 48) = true := by rw [HX.out, HZ.out j hlt]; rfl
      go_wp2
      go_roundw
      case rel => exact ⟨j + 1, by omega, by go_num, trivial⟩
      case measure => simp [intOf]; omega
    · obtain rfl : j = z := by omega
      have hq1 : ((s[a + j].toNat : Int) == 48) = false := by rw [HX.out, HO.out]; rfl
      go_wp2_with (go_at_call 69; refine HA.out.mono ?_; rintro e w1 ⟨rfl, hw⟩; subst w1)
      go_ret3
      exact ⟨rfl, rfl⟩

/-- What spec.l02Read answers behind the loop where no counted number stands: it refuses, or the number is too small or too great. -/
theorem specReadStop (s : ByteArray) (a j : Nat) (w : World) (hr : rowOkB s = true) (hj : j ≤ 21) (ha : (a : Int) + (j : Int) ≤ (s.size : Int)) (h : CountedNot s a) (hz : ∀ i, i < j → bAt s (a + i) = 48)
    (hs : a + j = s.size ∨ (a + j < s.size ∧ bAt s (a + j) = 49) ∨ (a + j < s.size ∧ bAt s (a + j) = 48)) :
    (Calls Tryz.prog 69 #[.string s, .int .i64 ((a : Int) + (j : Int)), .int .i64 ((j : Int) + 1)] w fun e w' => e = .returned (.tuple #[.int .i64 0, .int .i64 0, .bool false]) ∧ w' = w) ∨
    ∃ m : Int, 0 ≤ m ∧ m < 1073741824 ∧ (m < 2 ^ j ∨ (2 ^ j ≤ m ∧ 1000000 < m - 1)) ∧ (Calls Tryz.prog 69 #[.string s, .int .i64 ((a : Int) + (j : Int)), .int .i64 ((j : Int) + 1)] w fun e w' => e = .returned (.tuple #[.int .i64 m, .int .i64 ((a : Int) + (j : Int) + ((j : Int) + 1)), .bool true]) ∧ w' = w) := by
  have h4 := (rowOkB_true s hr).1
  have hrow := (rowOkB_true s hr).2
  by_cases hfit : a + j + (j + 1) ≤ s.size
  · refine .inr ⟨readN s (a + j) (j + 1), (readN_bd s (a + j) (j + 1) hrow (by omega) (by omega)).1, (readN_bd s (a + j) (j + 1) hrow (by omega) (by omega)).2, ?_, ?_⟩
    · rcases hs with hs | ⟨hs, h49⟩ | ⟨hs, h48⟩
      · omega
      · have := counted_big s a j hrow ⟨hs, h49, hz⟩ hfit h
        exact .inr ⟨this.2, this.1⟩
      · exact .inl (readN_zero s (a + j) h48 j (by omega) hrow)
    · refine (specRead s (a + j) (j + 1) w hr (by omega) (by omega)).mono ?_
      rintro e w1 ⟨rfl, rfl⟩
      exact ⟨by simp, rfl⟩
  · exact .inl (specRead_no s (a + j) (j + 1) w (by omega) (by omega) (by omega) (by omega))

set_option maxHeartbeats 1000000 in
theorem specReadAtNo (s : ByteArray) (a : Nat) (w : World) (hr : rowOkB s = true) (ha : (a : Int) ≤ (s.size : Int)) (h : CountedNot s a) :
    Calls Tryz.prog 60 #[.string s, .int .i64 a] w fun e w' => e = .returned (.tuple #[.int .i64 0, .int .i64 0, .bool false]) ∧ w' = w := by
  have HS : Hid (∀ (j : Nat), j ≤ 21 → (a : Int) + (j : Int) ≤ (s.size : Int) → (∀ i, i < j → bAt s (a + i) = 48) →
      (a + j = s.size ∨ (a + j < s.size ∧ bAt s (a + j) = 49) ∨ (a + j < s.size ∧ bAt s (a + j) = 48)) →
    (Calls Tryz.prog 69 #[.string s, .int .i64 ((a : Int) + (j : Int)), .int .i64 ((j : Int) + 1)] w fun e w' => e = .returned (.tuple #[.int .i64 0, .int .i64 0, .bool false]) ∧ w' = w) ∨
    ∃ m : Int, 0 ≤ m ∧ m < 1073741824 ∧ (m < 2 ^ j ∨ (2 ^ j ≤ m ∧ 1000000 < m - 1)) ∧ (Calls Tryz.prog 69 #[.string s, .int .i64 ((a : Int) + (j : Int)), .int .i64 ((j : Int) + 1)] w fun e w' => e = .returned (.tuple #[.int .i64 m, .int .i64 ((a : Int) + (j : Int) + ((j : Int) + 1)), .bool true]) ∧ w' = w)) :=
    fun j hj ha hz hs => specReadStop s a j w hr hj ha h hz hs
  have h4 := (rowOkB_true s hr).1
  have HR : Hid (rowB s = true) := (rowOkB_true s hr).2
  have c2 : (s.size : Int) ≤ 400000 := by omega
  clear hr h4 h
  go_enter Tryz.func60, Tryz.ntmps60
  go_wp2
  go_loopw [7] (fun i wr => ∃ j : Nat, j ≤ 21 ∧ (a : Int) + (j : Int) ≤ (s.size : Int) ∧ i = .int .i64 (j : Int) ∧ Hid (∀ i, i < j → bAt s (a + i) = 48) ∧ wr = w)
    (fun i _ => 21 - (intOf i).toNat)
  case atStart => exact ⟨0, Nat.zero_le _, by omega, rfl, (fun i hi => by omega : ∀ i, i < 0 → bAt s (a + i) = 48), rfl⟩
  case round =>
    obtain ⟨j, hj, haj, rfl, HZ, rfl⟩ := hrel
    have hj' : (j : Int) ≤ 21 := by omega
    obtain ⟨p, hpp⟩ : ∃ p : Int, (2 : Int) ^ j = p := ⟨_, rfl⟩
    have hpb := pow_bd j (by omega)
    rw [hpp] at hpb
    obtain ⟨hp1, hp2⟩ := hpb
    by_cases e1 : a + j = s.size
    · have e1' : (s.size : Int) ≤ (a : Int) + (j : Int) := by omega
      have hst := HS.out j hj haj HZ.out (.inl e1)
      rw [hpp] at hst
      rcases hst with hst | ⟨m, m0, m1, hm, hst⟩
      · have HA : Hid (Calls Tryz.prog 69 #[.string s, .int .i64 ((a : Int) + (j : Int)), .int .i64 ((j : Int) + 1)] wr fun e w' => e = .returned (.tuple #[.int .i64 0, .int .i64 0, .bool false]) ∧ w' = wr) := hst
        clear hst e1
        go_wp2_with (go_at_call 69; refine HA.out.mono ?_; rintro e w1 ⟨rfl, hw⟩; subst w1)
        go_ret3
        exact ⟨rfl, rfl⟩
      · have HA : Hid (Calls Tryz.prog 69 #[.string s, .int .i64 ((a : Int) + (j : Int)), .int .i64 ((j : Int) + 1)] wr fun e w' => e = .returned (.tuple #[.int .i64 m, .int .i64 ((a : Int) + (j : Int) + ((j : Int) + 1)), .bool true]) ∧ w' = wr) := hst
        clear hst e1
        rcases hm with hm | ⟨hm, hm'⟩
        all_goals
          go_wp2_with (go_at_call 69; refine HA.out.mono ?_; rintro e w1 ⟨rfl, hw⟩; subst w1)
          go_ret3
          exact ⟨rfl, rfl⟩
    · have hjs : a + j < s.size := by omega
      have haj' : (a : Int) + (j : Int) < (s.size : Int) := by omega
      have HX : Hid ((s[a + j].toNat : Int) = bAt s (a + j)) := bAt_eq s (a + j) hjs
      have hb := rowB_bit s HR.out (a + j) hjs
      unfold bitAt at hb
      by_cases e2 : j < 21 ∧ bAt s (a + j) = 48
      · have HB : Hid (bAt s (a + j) = 48) := e2.2
        have hq : (j : Int) < 21 := by omega
        have hq1 : ((s[a + j].toNat : Int) == 48) = true := by rw [HX.out, HB.out]; rfl
        clear e2 hb e1
        go_wp2
        go_roundw
        case rel => exact ⟨j + 1, by omega, by omega, by go_num, (fun i hi => by rcases Nat.lt_succ_iff_lt_or_eq.1 hi with h | rfl; exact HZ.out i h; exact HB.out : ∀ i, i < j + 1 → bAt s (a + i) = 48), trivial⟩
        case measure => simp [intOf]; omega
      · have hst := HS.out j hj haj HZ.out (by rcases hb with hb | hb; exact .inr (.inr ⟨hjs, hb⟩); exact .inr (.inl ⟨hjs, hb⟩))
        rw [hpp] at hst
        have hq : 21 ≤ (j : Int) ∨ ((s[a + j].toNat : Int) == 48) = false := by
          rcases hb with hb | hb
          · left; omega
          · right; rw [HX.out, hb]; rfl
        clear e2 hb e1
        rcases hst with hst | ⟨m, m0, m1, hm, hst⟩
        · have HA : Hid (Calls Tryz.prog 69 #[.string s, .int .i64 ((a : Int) + (j : Int)), .int .i64 ((j : Int) + 1)] wr fun e w' => e = .returned (.tuple #[.int .i64 0, .int .i64 0, .bool false]) ∧ w' = wr) := hst
          clear hst
          cases hv : ((s[a + j].toNat : Int) == 48) with
          | false =>
            clear hq
            go_wp2_with (go_at_call 69; refine HA.out.mono ?_; rintro e w1 ⟨rfl, hw⟩; subst w1)
            go_ret3
            exact ⟨rfl, rfl⟩
          | true =>
            have hq' : 21 ≤ (j : Int) := by rcases hq with hq | hq; exact hq; rw [hv] at hq; cases hq
            clear hq
            go_wp2_with (go_at_call 69; refine HA.out.mono ?_; rintro e w1 ⟨rfl, hw⟩; subst w1)
            go_ret3
            exact ⟨rfl, rfl⟩
        · have HA : Hid (Calls Tryz.prog 69 #[.string s, .int .i64 ((a : Int) + (j : Int)), .int .i64 ((j : Int) + 1)] wr fun e w' => e = .returned (.tuple #[.int .i64 m, .int .i64 ((a : Int) + (j : Int) + ((j : Int) + 1)), .bool true]) ∧ w' = wr) := hst
          clear hst
          cases hv : ((s[a + j].toNat : Int) == 48) with
          | false =>
            clear hq
            rcases hm with hm | ⟨hm, hm'⟩
            all_goals
              go_wp2_with (go_at_call 69; refine HA.out.mono ?_; rintro e w1 ⟨rfl, hw⟩; subst w1)
              go_ret3
              exact ⟨rfl, rfl⟩
          | true =>
            have hq' : 21 ≤ (j : Int) := by rcases hq with hq | hq; exact hq; rw [hv] at hq; cases hq
            clear hq
            rcases hm with hm | ⟨hm, hm'⟩
            all_goals
              go_wp2_with (go_at_call 69; refine HA.out.mono ?_; rintro e w1 ⟨rfl, hw⟩; subst w1)
              go_ret3
              exact ⟨rfl, rfl⟩
end Go.Proofs.YtnlbigjfnjcldaaGreat

namespace Go.Proofs.YtnlbigjfnjcldaaGreat
open Go.RowKit
set_option linter.unusedVariables false

theorem opens_ue : Opens 0 (fun u => u) := fun u w h0 h1 => implSame u w ⟨h0, h1⟩
theorem opens_ue_no : OpensNot 0 := fun u w h => implSame_no u w (.inr h)
theorem opens_se : Opens 1 seO := fun u w h0 h1 => implOpen u w ⟨h0, h1⟩
theorem opens_se_no : OpensNot 1 := fun u w h => implOpen_no u w (.inr h)
theorem Counted.low {s : ByteArray} {a z : Nat} {n : Int} (hc : Counted s a z n) (hr : rowOkB s = true) : 0 ≤ n := by
  have hrow := (rowOkB_true s hr).2
  have h1 := readN_first s (a + z) hc.first.one z (by have := hc.fits; omega) hrow
  have hp : (1 : Int) ≤ 2 ^ z := Int.pow_pos (by decide)
  have := hc.num
  omega

set_option maxHeartbeats 1000000 in
theorem specSeAt (s : ByteArray) (a z : Nat) (n : Int) (w : World) (hr : rowOkB s = true) (hc : Counted s a z n) :
    Calls Tryz.prog 61 #[.string s, .int .i64 a] w fun e w' => e = .returned (.tuple #[.int .i64 (seO n), .int .i64 ((a : Int) + (z : Int) + ((z : Int) + 1)), .bool true]) ∧ w' = w := by
  have HA : Hid (Calls Tryz.prog 60 #[.string s, .int .i64 a] w fun e w' => e = .returned (.tuple #[.int .i64 n, .int .i64 ((a : Int) + (z : Int) + ((z : Int) + 1)), .bool true]) ∧ w' = w) := specReadAt s a z n w hr hc
  have HB : Hid (0 ≤ n ∧ n ≤ 1000000) := ⟨hc.low hr, hc.top⟩
  clear hr hc
  go_enter Tryz.func61, Tryz.ntmps61
  go_wp2_with (first
    | (go_at_call 60; refine HA.out.mono ?_; rintro e w1 ⟨rfl, hw⟩; subst w1)
    | (go_at_call 70; refine (specOpen n _ HB.out).mono ?_; rintro e w1 ⟨rfl, hw⟩; subst w1))
  go_ret3
  exact ⟨rfl, rfl⟩
set_option maxHeartbeats 1000000 in
theorem specSeAtNo (s : ByteArray) (a : Nat) (w : World) (hr : rowOkB s = true) (ha : (a : Int) ≤ (s.size : Int)) (h : CountedNot s a) :
    Calls Tryz.prog 61 #[.string s, .int .i64 a] w fun e w' => e = .returned (.tuple #[.int .i64 0, .int .i64 0, .bool false]) ∧ w' = w := by
  have HA : Hid (Calls Tryz.prog 60 #[.string s, .int .i64 a] w fun e w' => e = .returned (.tuple #[.int .i64 0, .int .i64 0, .bool false]) ∧ w' = w) := specReadAtNo s a w hr ha h
  clear hr ha h
  go_enter Tryz.func61, Tryz.ntmps61
  go_wp2_with (go_at_call 60; refine HA.out.mono ?_; rintro e w1 ⟨rfl, hw⟩; subst w1)
  go_ret3
  exact ⟨rfl, rfl⟩

end Go.Proofs.YtnlbigjfnjcldaaGreat

namespace Go.Proofs.YtnlbigjfnjcldaaGreat
open Go.RowKit
set_option linter.unusedVariables false

/-- F tells the counted number at each place, and the place behind it. -/
def IsCnt (s : ByteArray) (F : Nat → Option (Int × Nat)) : Prop :=
  ∀ p, (∀ n q, F p = some (n, q) → ∃ z, Counted s p z n ∧ q = p + z + (z + 1)) ∧ (F p = none → CountedNot s p)
theorem isCnt_exists (s : ByteArray) : ∃ F, IsCnt s F := by
  have h : ∀ p, ∃ r : Option (Int × Nat), (∀ n q, r = some (n, q) → ∃ z, Counted s p z n ∧ q = p + z + (z + 1)) ∧ (r = none → CountedNot s p) := fun p => by
    by_cases h : ∃ z n, Counted s p z n
    · obtain ⟨z, n, hc⟩ := h
      exact ⟨some (n, p + z + (z + 1)), (fun n' q e => by cases e; exact ⟨z, hc, rfl⟩), fun e => by cases e⟩
    · exact ⟨none, (fun n q e => by cases e), fun _ z n hc => h ⟨z, n, hc⟩⟩
  exact ⟨fun p => Classical.choose (h p), fun p => Classical.choose_spec (h p)⟩
theorem IsCnt.of {s : ByteArray} {F : Nat → Option (Int × Nat)} (h : IsCnt s F) {p z : Nat} {n : Int} (hc : Counted s p z n) : F p = some (n, p + z + (z + 1)) := by
  cases e : F p with
  | none => exact absurd hc ((h p).2 e z n)
  | some r =>
    obtain ⟨m, q⟩ := r
    obtain ⟨y, hy, rfl⟩ := (h p).1 m q e
    obtain ⟨rfl, rfl⟩ := hy.uniq hc
    rfl
theorem IsCnt.bd {s : ByteArray} {F : Nat → Option (Int × Nat)} (h : IsCnt s F) (hr : rowOkB s = true) {p q : Nat} {n : Int} (e : F p = some (n, q)) : 0 ≤ n ∧ n ≤ 1000000 ∧ q ≤ s.size := by
  obtain ⟨z, hc, rfl⟩ := (h p).1 n q e
  exact ⟨hc.low hr, hc.top, hc.fits⟩

/-- Whether a level may stand in a row of runs. -/
def levB (x : Int) : Bool := !(decide (x = 0)) && (decide (-5000 ≤ x) && decide (x ≤ 5000))
/-- The run at a place: its noughts, its level and the place behind it. -/
def oneR (F : Nat → Option (Int × Nat)) (p : Nat) : Option (Nat × Int × Nat) :=
  match F p with
  | none => none
  | some (z, q) => match F q with
    | none => none
    | some (u, e) => if levB (seO u) = true then some (z.toNat, seO u, e) else none
theorem oneR_none {F : Nat → Option (Int × Nat)} {p : Nat} (h : F p = none) : oneR F p = none := by unfold oneR; rw [h]
theorem oneR_second {F : Nat → Option (Int × Nat)} {p q : Nat} {z : Int} (h : F p = some (z, q)) (h2 : F q = none) : oneR F p = none := by unfold oneR; rw [h]; simp only [h2]
theorem oneR_bad {F : Nat → Option (Int × Nat)} {p q e : Nat} {z u : Int} (h : F p = some (z, q)) (h2 : F q = some (u, e)) (h3 : levB (seO u) = false) : oneR F p = none := by unfold oneR; rw [h]; simp only [h2]; rw [if_neg (by rw [h3]; decide)]
theorem oneR_some {F : Nat → Option (Int × Nat)} {p q e : Nat} {z u : Int} (h : F p = some (z, q)) (h2 : F q = some (u, e)) (h3 : levB (seO u) = true) : oneR F p = some (z.toNat, seO u, e) := by unfold oneR; rw [h]; simp only [h2]; rw [if_pos h3]

/-- What has been read: the numbers, how many places are filled, the place in the row. -/
abbrev RSt := Option ((Nat → Int) × Nat × Nat)
def updF (g : Nat → Int) (i : Nat) (x : Int) : Nat → Int := fun j => if j = i then x else g j
def stepR (F : Nat → Option (Int × Nat)) (n : Nat) : RSt → RSt
  | none => none
  | some (g, k, p) => match oneR F p with
    | none => none
    | some (z, x, e) => if n ≤ k + z then none else some (updF g (k + z) x, k + z + 1, e)
def iterR (F : Nat → Option (Int × Nat)) (n p : Nat) : Nat → RSt
  | 0 => some (fun _ => 0, 0, p)
  | j + 1 => stepR F n (iterR F n p j)
theorem step_fault {F : Nat → Option (Int × Nat)} {n p k : Nat} {g : Nat → Int} (h : oneR F p = none) : stepR F n (some (g, k, p)) = none := by unfold stepR; simp only [h]
theorem step_far {F : Nat → Option (Int × Nat)} {n p k z e : Nat} {x : Int} {g : Nat → Int} (h : oneR F p = some (z, x, e)) (h2 : n ≤ k + z) : stepR F n (some (g, k, p)) = none := by unfold stepR; simp only [h]; rw [if_pos h2]
theorem step_on {F : Nat → Option (Int × Nat)} {n p k z e : Nat} {x : Int} {g : Nat → Int} (h : oneR F p = some (z, x, e)) (h2 : ¬ n ≤ k + z) : stepR F n (some (g, k, p)) = some (updF g (k + z) x, k + z + 1, e) := by unfold stepR; simp only [h]; rw [if_neg h2]
/-- A first number that is too great ends the reading, whatever stands behind it. -/
theorem step_over {F : Nat → Option (Int × Nat)} {n p k q : Nat} {z : Int} {g : Nat → Int} (h : F p = some (z, q)) (h2 : n ≤ k + z.toNat) : stepR F n (some (g, k, p)) = none := by
  cases h3 : F q with
  | none => exact step_fault (oneR_second h h3)
  | some r =>
    obtain ⟨u, e⟩ := r
    cases h4 : levB (seO u) with
    | true => exact step_far (oneR_some h h3 h4) h2
    | false => exact step_fault (oneR_bad h h3 h4)
theorem iterR_stays {F : Nat → Option (Int × Nat)} {n p j : Nat} (h : iterR F n p j = none) : ∀ m, j ≤ m → iterR F n p m = none := by
  intro m hm
  induction m with
  | zero => rw [show j = 0 by omega] at h; exact h
  | succ m ih =>
    by_cases he : j = m + 1
    · rw [← he]; exact h
    · show stepR F n (iterR F n p m) = none
      rw [ih (by omega)]
      rfl
theorem oneR_end {s : ByteArray} {F : Nat → Option (Int × Nat)} (hF : IsCnt s F) (hr : rowOkB s = true) {p z e : Nat} {x : Int} (h : oneR F p = some (z, x, e)) : e ≤ s.size ∧ z ≤ 1000000 ∧ levB x = true := by
  unfold oneR at h
  cases h1 : F p with
  | none => rw [h1] at h; cases h
  | some r =>
    obtain ⟨y, q⟩ := r
    rw [h1] at h
    simp only at h
    cases h2 : F q with
    | none => rw [h2] at h; cases h
    | some r2 =>
      obtain ⟨u, e2⟩ := r2
      rw [h2] at h
      simp only at h
      split at h
      · rename_i h3
        cases h
        have b1 := hF.bd hr h1
        have b2 := hF.bd hr h2
        exact ⟨b2.2.2, by omega, h3⟩
      · cases h
theorem iterR_bd {s : ByteArray} {F : Nat → Option (Int × Nat)} (hF : IsCnt s F) (hr : rowOkB s = true) {n p : Nat} (hp : p ≤ s.size) : ∀ j g k q, iterR F n p j = some (g, k, q) → j ≤ k ∧ k ≤ n ∧ q ≤ s.size
  | 0, g, k, q, h => by cases h; exact ⟨Nat.le_refl _, Nat.zero_le _, hp⟩
  | j + 1, g, k, q, h => by
    change stepR F n (iterR F n p j) = some (g, k, q) at h
    cases h1 : iterR F n p j with
    | none => rw [h1] at h; cases h
    | some st =>
      obtain ⟨g1, k1, q1⟩ := st
      have ih := iterR_bd hF hr hp j g1 k1 q1 h1
      rw [h1] at h
      cases h2 : oneR F q1 with
      | none => rw [step_fault h2] at h; cases h
      | some r =>
        obtain ⟨z, x, e⟩ := r
        by_cases h3 : n ≤ k1 + z
        · rw [step_far h2 h3] at h; cases h
        · rw [step_on h2 h3] at h
          cases h
          have := oneR_end hF hr h2
          omega
theorem iterR_over {s : ByteArray} {F : Nat → Option (Int × Nat)} (hF : IsCnt s F) (hr : rowOkB s = true) {n p : Nat} (hp : p ≤ s.size) {m : Nat} (h : n < m) : iterR F n p m = none := by
  cases h1 : iterR F n p m with
  | none => rfl
  | some st =>
    obtain ⟨g, k, q⟩ := st
    have := iterR_bd hF hr hp m g k q h1
    omega

/-- What is read in all: the state behind as many rounds as the first number tells. -/
def readR (F : Nat → Option (Int × Nat)) (n p : Nat) : RSt :=
  match F p with
  | none => none
  | some (m, q) => iterR F n q m.toNat
theorem readR_none {F : Nat → Option (Int × Nat)} {n p : Nat} (h : F p = none) : readR F n p = none := by unfold readR; rw [h]
theorem readR_some {F : Nat → Option (Int × Nat)} {n p q : Nat} {m : Int} (h : F p = some (m, q)) : readR F n p = iterR F n q m.toNat := by unfold readR; rw [h]
def ansL (n : Nat) (st : RSt) : List Int := match st with | none => [] | some (g, _, _) => listF n g
def ansE (st : RSt) : Int := match st with | none => 0 | some (_, _, e) => (e : Int)
def ansY (st : RSt) : Bool := match st with | none => false | some _ => true
theorem upd_set (g : Nat → Int) (n i : Nat) (x : Int) : ((listF n g).map (Value.int .i64)).set i (.int .i64 x) = (listF n (updF g i x)).map (Value.int .i64) := by
  unfold listF
  rw [List.map_map, List.map_map]
  have e : Value.int .i64 x = (Value.int .i64 ∘ updF g i x) i := by simp [updF]
  rw [e]
  refine int_range_set n i _ _ (fun j hj => ?_)
  simp [Function.comp, updF, hj]
theorem none_made (n : Nat) : (madeCells (Value.int .i64 0).cells (n * 1)).toList = (listF n (fun _ => 0)).map (Value.int .i64) := by
  rw [int_made]
  unfold listF
  rw [List.map_map]
  rfl

/-! ### What the readers of one number answer, over F -/
theorem specUeF {s : ByteArray} {F : Nat → Option (Int × Nat)} (hF : IsCnt s F) (hr : rowOkB s = true) {p q : Nat} {n : Int} (w : World) (h : F p = some (n, q)) :
    Calls Tryz.prog 60 #[.string s, .int .i64 (p : Int)] w fun e w' => e = .returned (.tuple #[.int .i64 n, .int .i64 (q : Int), .bool true]) ∧ w' = w := by
  obtain ⟨z, hc, rfl⟩ := (hF p).1 n q h
  have := specReadAt s p z n w hr hc
  rwa [show ((p : Int) + (z : Int) + ((z : Int) + 1)) = ((p + z + (z + 1) : Nat) : Int) by omega] at this
theorem specUeF_no {s : ByteArray} {F : Nat → Option (Int × Nat)} (hF : IsCnt s F) (hr : rowOkB s = true) {p : Nat} (w : World) (hp : p ≤ s.size) (h : F p = none) :
    Calls Tryz.prog 60 #[.string s, .int .i64 (p : Int)] w fun e w' => e = .returned (.tuple #[.int .i64 0, .int .i64 0, .bool false]) ∧ w' = w :=
  specReadAtNo s p w hr (by omega) ((hF p).2 h)
theorem specSeF {s : ByteArray} {F : Nat → Option (Int × Nat)} (hF : IsCnt s F) (hr : rowOkB s = true) {p q : Nat} {n : Int} (w : World) (h : F p = some (n, q)) :
    Calls Tryz.prog 61 #[.string s, .int .i64 (p : Int)] w fun e w' => e = .returned (.tuple #[.int .i64 (seO n), .int .i64 (q : Int), .bool true]) ∧ w' = w := by
  obtain ⟨z, hc, rfl⟩ := (hF p).1 n q h
  have := specSeAt s p z n w hr hc
  rwa [show ((p : Int) + (z : Int) + ((z : Int) + 1)) = ((p + z + (z + 1) : Nat) : Int) by omega] at this
theorem specSeF_no {s : ByteArray} {F : Nat → Option (Int × Nat)} (hF : IsCnt s F) (hr : rowOkB s = true) {p : Nat} (w : World) (hp : p ≤ s.size) (h : F p = none) :
    Calls Tryz.prog 61 #[.string s, .int .i64 (p : Int)] w fun e w' => e = .returned (.tuple #[.int .i64 0, .int .i64 0, .bool false]) ∧ w' = w :=
  specSeAtNo s p w hr (by omega) ((hF p).2 h)
theorem implUeF {s : ByteArray} {F : Nat → Option (Int × Nat)} (hF : IsCnt s F) (hr : rowOkB s = true) {p q : Nat} {n : Int} (w : World) (h : F p = some (n, q)) :
    Calls Tryz.prog 65 #[.int .i64 0, .string s, .int .i64 (p : Int)] w fun e w' => e = .returned (.tuple #[.int .i64 n, .int .i64 (q : Int), .bool true]) ∧ w' = w := by
  obtain ⟨z, hc, rfl⟩ := (hF p).1 n q h
  have := implReadAt 0 (fun u => u) s p z n w opens_ue hr hc
  rwa [show ((p : Int) + (z : Int) + ((z : Int) + 1)) = ((p + z + (z + 1) : Nat) : Int) by omega] at this
theorem implUeF_no {s : ByteArray} {F : Nat → Option (Int × Nat)} (hF : IsCnt s F) (hr : rowOkB s = true) {p : Nat} (w : World) (hp : p ≤ s.size) (h : F p = none) :
    Calls Tryz.prog 65 #[.int .i64 0, .string s, .int .i64 (p : Int)] w fun e w' => e = .returned (.tuple #[.int .i64 0, .int .i64 0, .bool false]) ∧ w' = w :=
  implReadAtNo 0 s p w opens_ue_no hr (by omega) ((hF p).2 h)
theorem implSeF {s : ByteArray} {F : Nat → Option (Int × Nat)} (hF : IsCnt s F) (hr : rowOkB s = true) {p q : Nat} {n : Int} (w : World) (h : F p = some (n, q)) :
    Calls Tryz.prog 65 #[.int .i64 1, .string s, .int .i64 (p : Int)] w fun e w' => e = .returned (.tuple #[.int .i64 (seO n), .int .i64 (q : Int), .bool true]) ∧ w' = w := by
  obtain ⟨z, hc, rfl⟩ := (hF p).1 n q h
  have := implReadAt 1 seO s p z n w opens_se hr hc
  rwa [show ((p : Int) + (z : Int) + ((z : Int) + 1)) = ((p + z + (z + 1) : Nat) : Int) by omega] at this
theorem implSeF_no {s : ByteArray} {F : Nat → Option (Int × Nat)} (hF : IsCnt s F) (hr : rowOkB s = true) {p : Nat} (w : World) (hp : p ≤ s.size) (h : F p = none) :
    Calls Tryz.prog 65 #[.int .i64 1, .string s, .int .i64 (p : Int)] w fun e w' => e = .returned (.tuple #[.int .i64 0, .int .i64 0, .bool false]) ∧ w' = w :=
  implReadAtNo 1 s p w opens_se_no hr (by omega) ((hF p).2 h)
end Go.Proofs.YtnlbigjfnjcldaaGreat

namespace Go.Proofs.YtnlbigjfnjcldaaGreat
open Go.RowKit
set_option linter.unusedVariables false

theorem levelOk_any (x : Int) (w : World) : Calls Tryz.prog 149 #[.int .i64 x] w fun e w' => e = .returned (.bool (decide (-5000 ≤ x) && decide (x ≤ 5000))) ∧ w' = w := by
  by_cases h1 : -5000 ≤ x
  · go_enter Tryz.func149, Tryz.ntmps149
    go_wp2
    all_goals go_ret
    all_goals exact ⟨by simp; omega, rfl⟩
  · go_enter Tryz.func149, Tryz.ntmps149
    go_wp2
    all_goals go_ret
    all_goals exact ⟨by simp; omega, rfl⟩

/-- What runAt answers. -/
def oneZ (r : Option (Nat × Int × Nat)) : Int := match r with | none => 0 | some (z, _, _) => (z : Int)
def oneX (r : Option (Nat × Int × Nat)) : Int := match r with | none => 0 | some (_, x, _) => x
def oneE (r : Option (Nat × Int × Nat)) : Int := match r with | none => 0 | some (_, _, e) => (e : Int)
def oneY (r : Option (Nat × Int × Nat)) : Bool := match r with | none => false | some _ => true

set_option maxHeartbeats 1600000 in
theorem runAt_any {s : ByteArray} {F : Nat → Option (Int × Nat)} (hF : IsCnt s F) (hr : rowOkB s = true) (p : Nat) (w : World) (hp : p ≤ s.size) :
    Calls Tryz.prog 133 #[.string s, .int .i64 (p : Int)] w fun e w' => e = .returned (.tuple #[.agg #[.int .i64 (oneZ (oneR F p)), .int .i64 (oneX (oneR F p))], .int .i64 (oneE (oneR F p)), .bool (oneY (oneR F p))]) ∧ Below w.heap.size w w' := by
  cases h1 : F p with
  | none =>
    rw [oneR_none h1]
    have CU : Hid (∀ w', Calls Tryz.prog 65 #[.int .i64 0, .string s, .int .i64 (p : Int)] w' (fun e w'' => e = .returned (.tuple #[.int .i64 0, .int .i64 0, .bool false]) ∧ w'' = w')) := fun w' => implUeF_no hF hr w' hp h1
    have b0 := Blk.new w #[.int .i64 0, .int .i64 0] 159
    have hb0 : Below w.heap.size w (w.alloc (.cells #[.int .i64 0, .int .i64 0] 159)) := (Below.refl _ _).alloc (Nat.le_refl _) _
    clear hF hr hp h1
    go_enter Tryz.func133, Tryz.ntmps133
    go_wp2_with (go_at_call 65; refine (CU.out _).mono ?_; rintro e w2 ⟨rfl, hw⟩; subst w2)
    refine bodyPost_ret (results_cell_two rfl _ _ w.heap.size 159 _ (0, 0) _ rfl (Blk.new _ _ _) Tryz.underlying159 rfl (by kernel_rfl)) rfl ?_
    exact ⟨rfl, (Below.refl _ _).alloc (Nat.le_refl _) _⟩
  | some r1 =>
    obtain ⟨z, q1⟩ := r1
    obtain ⟨z0, z1, hq1⟩ := hF.bd hr h1
    have CU : Hid (∀ w', Calls Tryz.prog 65 #[.int .i64 0, .string s, .int .i64 (p : Int)] w' (fun e w'' => e = .returned (.tuple #[.int .i64 z, .int .i64 (q1 : Int), .bool true]) ∧ w'' = w')) := fun w' => implUeF hF hr w' h1
    cases h2 : F q1 with
    | none =>
      rw [oneR_second h1 h2]
      have CS : Hid (∀ w', Calls Tryz.prog 65 #[.int .i64 1, .string s, .int .i64 (q1 : Int)] w' (fun e w'' => e = .returned (.tuple #[.int .i64 0, .int .i64 0, .bool false]) ∧ w'' = w')) := fun w' => implSeF_no hF hr w' hq1 h2
      have b0 := Blk.new w #[.int .i64 0, .int .i64 0] 159
      clear hF hr hp h1 h2
      go_enter Tryz.func133, Tryz.ntmps133
      go_wp2_with (first
        | (go_at_call_of 65 (Value.int IntKind.i64 0); refine (CU.out _).mono ?_; rintro e w2 ⟨rfl, hw⟩; subst w2)
        | (go_at_call_of 65 (Value.int IntKind.i64 1); refine (CS.out _).mono ?_; rintro e w2 ⟨rfl, hw⟩; subst w2))
      refine bodyPost_ret (results_cell_two rfl _ _ w.heap.size 159 _ (0, 0) _ rfl (Blk.new _ _ _) Tryz.underlying159 rfl (by kernel_rfl)) rfl ?_
      exact ⟨rfl, (Below.refl _ _).alloc (Nat.le_refl _) _⟩
    | some r2 =>
      obtain ⟨u, e2⟩ := r2
      have CS0 : ∀ w', Calls Tryz.prog 65 #[.int .i64 1, .string s, .int .i64 (q1 : Int)] w' (fun e w'' => e = .returned (.tuple #[.int .i64 (seO u), .int .i64 (e2 : Int), .bool true]) ∧ w'' = w') := fun w' => implSeF hF hr w' h2
      obtain ⟨x, hx⟩ : ∃ x, seO u = x := ⟨_, rfl⟩
      have CL := levelOk_any x
      cases hlv : levB x with
      | false =>
        rw [oneR_bad h1 h2 (by rw [hx]; exact hlv)]
        rw [hx] at CS0
        have CS : Hid (∀ w', Calls Tryz.prog 65 #[.int .i64 1, .string s, .int .i64 (q1 : Int)] w' (fun e w'' => e = .returned (.tuple #[.int .i64 x, .int .i64 (e2 : Int), .bool true]) ∧ w'' = w')) := CS0
        have b0 := Blk.new w #[.int .i64 0, .int .i64 0] 159
        unfold levB at hlv
        clear h1 h2 hx CS0 hF hr hp
        by_cases hx0 : x = 0
        · subst hx0
          clear CL hlv
          go_enter Tryz.func133, Tryz.ntmps133
          go_wp2_with (first
            | (go_at_call_of 65 (Value.int IntKind.i64 0); refine (CU.out _).mono ?_; rintro e w2 ⟨rfl, hw⟩; subst w2)
            | (go_at_call_of 65 (Value.int IntKind.i64 1); refine (CS.out _).mono ?_; rintro e w2 ⟨rfl, hw⟩; subst w2))
          refine bodyPost_ret (results_cell_two rfl _ _ w.heap.size 159 _ (0, 0) _ rfl (Blk.new _ _ _) Tryz.underlying159 rfl (by kernel_rfl)) rfl ?_
          exact ⟨rfl, (Below.refl _ _).alloc (Nat.le_refl _) _⟩
        · have e9 : (decide (-5000 ≤ x) && decide (x ≤ 5000)) = false := by
            rw [decide_eq_false hx0, Bool.not_false, Bool.true_and] at hlv
            exact hlv
          rw [e9] at CL
          have HL : Hid (∀ w', Calls Tryz.prog 149 #[.int .i64 x] w' (fun e w'' => e = .returned (.bool false) ∧ w'' = w')) := CL
          clear CL hlv e9
          go_enter Tryz.func133, Tryz.ntmps133
          go_wp2_with (first
            | (go_at_call_of 65 (Value.int IntKind.i64 0); refine (CU.out _).mono ?_; rintro e w2 ⟨rfl, hw⟩; subst w2)
            | (go_at_call_of 65 (Value.int IntKind.i64 1); refine (CS.out _).mono ?_; rintro e w2 ⟨rfl, hw⟩; subst w2)
            | (go_at_call 149; refine (HL.out _).mono ?_; rintro e w2 ⟨rfl, hw⟩; subst w2))
          refine bodyPost_ret (results_cell_two rfl _ _ w.heap.size 159 _ (0, 0) _ rfl (Blk.new _ _ _) Tryz.underlying159 rfl (by kernel_rfl)) rfl ?_
          exact ⟨rfl, (Below.refl _ _).alloc (Nat.le_refl _) _⟩
      | true =>
        have hR := oneR_some h1 h2 (by rw [hx]; exact hlv)
        rw [hR, hx, show oneZ (some (z.toNat, x, e2)) = z from by show ((z.toNat : Nat) : Int) = z; omega]
        rw [hx] at CS0
        have CS : Hid (∀ w', Calls Tryz.prog 65 #[.int .i64 1, .string s, .int .i64 (q1 : Int)] w' (fun e w'' => e = .returned (.tuple #[.int .i64 x, .int .i64 (e2 : Int), .bool true]) ∧ w'' = w')) := CS0
        have b0 := Blk.new w #[.int .i64 0, .int .i64 0] 159
        unfold levB at hlv
        obtain ⟨y1, y2⟩ : (!decide (x = 0)) = true ∧ (decide (-5000 ≤ x) && decide (x ≤ 5000)) = true := by simpa using hlv
        have hx0 : ¬ x = 0 := by simpa using y1
        rw [y2] at CL
        have HL : Hid (∀ w', Calls Tryz.prog 149 #[.int .i64 x] w' (fun e w'' => e = .returned (.bool true) ∧ w'' = w')) := CL
        clear h1 h2 hx CS0 hF hr hp CL hlv y1 y2 hR
        go_enter Tryz.func133, Tryz.ntmps133
        go_wp2_with (first
          | (go_at_call_of 65 (Value.int IntKind.i64 0); refine (CU.out _).mono ?_; rintro e w2 ⟨rfl, hw⟩; subst w2)
          | (go_at_call_of 65 (Value.int IntKind.i64 1); refine (CS.out _).mono ?_; rintro e w2 ⟨rfl, hw⟩; subst w2)
          | (go_at_call 149; refine (HL.out _).mono ?_; rintro e w2 ⟨rfl, hw⟩; subst w2))
        refine bodyPost_ret (results_cell_two rfl _ _ w.heap.size 159 _ (0, 0) _ rfl (Blk.new _ _ _) Tryz.underlying159 rfl (by kernel_rfl)) rfl ?_
        exact ⟨rfl, (Below.refl _ _).alloc (Nat.le_refl _) _⟩
end Go.Proofs.YtnlbigjfnjcldaaGreat

namespace Go.Proofs.YtnlbigjfnjcldaaGreat
open Go.RowKit
set_option linter.unusedVariables false

set_option maxHeartbeats 4000000 in
set_option maxRecDepth 20000 in
theorem specL11Read {s : ByteArray} {F : Nat → Option (Int × Nat)} (hF : IsCnt s F) (hr : rowOkB s = true) (p n : Nat) (w : World) (hp : p ≤ s.size) (hn0 : 16 ≤ n) (hn1 : n ≤ 64) :
    Calls Tryz.prog 71 #[.string s, .int .i64 (p : Int), .int .i64 (n : Int)] w fun e w' => (∃ v, e = .returned (.tuple #[v, .int .i64 (ansE (readR F n p)), .bool (ansY (readR F n p))]) ∧ w'.ownsRow w.heap.size 3 1 v (ansL n (readR F n p)).length ((ansL n (readR F n p)).map (Value.int .i64))) ∧ Below w.heap.size w w' := by
  obtain ⟨i0, hi0, hz0, hz1, hz2⟩ := info_parts infoI
  have n0 : (16 : Int) ≤ (n : Int) := by omega
  have n1 : (n : Int) ≤ 64 := by omega
  obtain ⟨st, hst⟩ : ∃ st, readR F n p = st := ⟨_, rfl⟩
  rw [hst]
  cases h0 : F p with
  | none =>
    have hN : st = none := by rw [← hst]; exact readR_none h0
    subst hN
    have CU : Hid (∀ w', Calls Tryz.prog 60 #[.string s, .int .i64 (p : Int)] w' (fun e w'' => e = .returned (.tuple #[.int .i64 0, .int .i64 0, .bool false]) ∧ w'' = w')) := fun w' => specUeF_no hF hr w' hp h0
    clear hst h0 hF hr hp
    go_enter Tryz.func71, Tryz.ntmps71
    go_wp2_with (first
      | (at_make; refine wpList_make_full _ (by rfl) _ _ 32 (by rfl) w.heap.size 3 i0 (.int .i64 0) 1 Tryz.underlying32 hi0 hz0 hz1 .i64 .i64 _ _ n (by rfl) (by rfl) (by rfl) (by rfl) (by rw [hz2]; omega) (by unfold maxLen; omega) (Nat.le_refl _) ?_; intro w1 hown0 hgrow0; have hb0 : Below w.heap.size w w1 := (Below.refl _ _).grown hgrow0 (Nat.le_refl _) (fun j hj => by cases hj))
      | (go_at_call 60; refine (CU.out _).mono ?_; rintro e w2 ⟨rfl, hw⟩; subst w2))
    go_ret3
    exact ⟨⟨_, rfl, own_none w1 hb0.size⟩, hb0.alloc hb0.size _⟩
  | some r =>
    obtain ⟨m, q⟩ := r
    obtain ⟨m0, m1, hq⟩ := hF.bd hr h0
    have CU : Hid (∀ w', Calls Tryz.prog 60 #[.string s, .int .i64 (p : Int)] w' (fun e w'' => e = .returned (.tuple #[.int .i64 m, .int .i64 (q : Int), .bool true]) ∧ w'' = w')) := fun w' => specUeF hF hr w' h0
    have hst' : iterR F n q m.toNat = st := by rw [← hst]; exact (readR_some h0).symm
    clear hst h0
    by_cases hmn : (n : Int) < m
    · have hN : st = none := by rw [← hst']; exact iterR_over hF hr hq (by omega)
      subst hN
      clear hst' hF hr hp hq
      go_enter Tryz.func71, Tryz.ntmps71
      go_wp2_with (first
        | (at_make; refine wpList_make_full _ (by rfl) _ _ 32 (by rfl) w.heap.size 3 i0 (.int .i64 0) 1 Tryz.underlying32 hi0 hz0 hz1 .i64 .i64 _ _ n (by rfl) (by rfl) (by rfl) (by rfl) (by rw [hz2]; omega) (by unfold maxLen; omega) (Nat.le_refl _) ?_; intro w1 hown0 hgrow0; have hb0 : Below w.heap.size w w1 := (Below.refl _ _).grown hgrow0 (Nat.le_refl _) (fun j hj => by cases hj))
        | (go_at_call 60; refine (CU.out _).mono ?_; rintro e w2 ⟨rfl, hw⟩; subst w2))
      go_ret3
      exact ⟨⟨_, rfl, own_none w1 hb0.size⟩, hb0.alloc hb0.size _⟩
    · obtain ⟨M, rfl⟩ : ∃ M : Nat, m = (M : Int) := ⟨m.toNat, by omega⟩
      have hM : (M : Int) ≤ 64 := by omega
      have HST : Hid (iterR F n q M = st) := by have := hst'; rwa [Int.toNat_natCast] at this
      have HF : Hid (IsCnt s F) := hF
      have HR : Hid (rowOkB s = true) := hr
      have HQ : Hid (q ≤ s.size) := hq
      have hd : decide (n < M) = false := decide_eq_false (by omega)
      clear hst' hF hr hp hq m0 m1
      go_enter Tryz.func71, Tryz.ntmps71
      go_wp2_with (first
        | (at_make; refine wpList_make_full _ (by rfl) _ _ 32 (by rfl) w.heap.size 3 i0 (.int .i64 0) 1 Tryz.underlying32 hi0 hz0 hz1 .i64 .i64 _ _ n (by rfl) (by rfl) (by rfl) (by rfl) (by rw [hz2]; omega) (by unfold maxLen; omega) (Nat.le_refl _) ?_; intro w1 hown0 hgrow0; have hb0 : Below w.heap.size w w1 := (Below.refl _ _).grown hgrow0 (Nat.le_refl _) (fun j hj => by cases hj))
        | (go_at_call 60; refine (CU.out _).mono ?_; rintro e w2 ⟨rfl, hw⟩; subst w2))
      rw [none_made] at hown0
      clear hgrow0 CU
      go_loopw [11, 13, 14] (fun nx kk i wr => ∃ (j : Nat) (g : Nat → Int) (k p' : Nat), j ≤ M ∧ i = .int .i64 (j : Int) ∧ kk = .int .i64 (k : Int) ∧ nx = .int .i64 (p' : Int) ∧ Hid (iterR F n q j = some (g, k, p')) ∧ wr.ownsRow w.heap.size 3 1 (.slice (some ⟨w.heap.size, 0, none⟩) n n) n ((listF n g).map (Value.int .i64)) ∧ Below w.heap.size w wr) (fun _ _ i _ => M - (intOf i).toNat)
      case atStart => exact ⟨0, fun _ => 0, 0, q, Nat.zero_le _, rfl, rfl, rfl, rfl, hown0, hb0⟩
      case round =>
        obtain ⟨j, g, k, p', hj, rfl, rfl, rfl, HI, hown, hb⟩ := hrel
        clear hown0 hb0
        obtain ⟨b1, b2, b3⟩ := iterR_bd HF.out HR.out HQ.out j g k p' HI.out
        have k0 : (0 : Int) ≤ (k : Int) := by omega
        have k1 : (k : Int) ≤ (n : Int) := by omega
        have j0 : (0 : Int) ≤ (j : Int) := by omega
        by_cases hlt : j < M
        · have j1 : (j : Int) < (M : Int) := by omega
          cases h1 : F p' with
          | none =>
            have HN : Hid (st = none) := HST.out.symm.trans (iterR_stays (j := j + 1) (by show stepR F n (iterR F n q j) = none; rw [HI.out]; exact step_fault (oneR_none h1)) M hlt)
            have CU : Hid (∀ w', Calls Tryz.prog 60 #[.string s, .int .i64 (p' : Int)] w' (fun e w'' => e = .returned (.tuple #[.int .i64 0, .int .i64 0, .bool false]) ∧ w'' = w')) := fun w' => specUeF_no HF.out HR.out w' b3 h1
            clear h1
            go_wp2_with (go_at_call 60; refine (CU.out _).mono ?_; rintro e w2 ⟨rfl, hw⟩; subst w2)
            go_ret3
            rw [HN.out]
            exact ⟨⟨_, rfl, own_none wr hb.size⟩, hb.alloc hb.size _⟩
          | some r1 =>
            obtain ⟨z, q1⟩ := r1
            obtain ⟨z0, z1, hq1⟩ := HF.out.bd HR.out h1
            obtain ⟨Z, rfl⟩ : ∃ Z : Nat, z = (Z : Int) := ⟨z.toNat, by omega⟩
            have CU : Hid (∀ w', Calls Tryz.prog 60 #[.string s, .int .i64 (p' : Int)] w' (fun e w'' => e = .returned (.tuple #[.int .i64 (Z : Int), .int .i64 (q1 : Int), .bool true]) ∧ w'' = w')) := fun w' => specUeF HF.out HR.out w' h1
            by_cases hfar : (n : Int) - 1 - (k : Int) < (Z : Int)
            · have HN : Hid (st = none) := HST.out.symm.trans (iterR_stays (j := j + 1) (by show stepR F n (iterR F n q j) = none; rw [HI.out]; exact step_over h1 (by rw [Int.toNat_natCast]; omega)) M hlt)
              clear h1
              go_wp2_with (go_at_call 60; refine (CU.out _).mono ?_; rintro e w2 ⟨rfl, hw⟩; subst w2)
              go_ret3
              rw [HN.out]
              exact ⟨⟨_, rfl, own_none wr hb.size⟩, hb.alloc hb.size _⟩
            · cases h2 : F q1 with
              | none =>
                have HN : Hid (st = none) := HST.out.symm.trans (iterR_stays (j := j + 1) (by show stepR F n (iterR F n q j) = none; rw [HI.out]; exact step_fault (oneR_second h1 h2)) M hlt)
                have CS : Hid (∀ w', Calls Tryz.prog 61 #[.string s, .int .i64 (q1 : Int)] w' (fun e w'' => e = .returned (.tuple #[.int .i64 0, .int .i64 0, .bool false]) ∧ w'' = w')) := fun w' => specSeF_no HF.out HR.out w' hq1 h2
                clear h1 h2
                go_wp2_with (first
                  | (go_at_call 60; refine (CU.out _).mono ?_; rintro e w2 ⟨rfl, hw⟩; subst w2)
                  | (go_at_call 61; refine (CS.out _).mono ?_; rintro e w2 ⟨rfl, hw⟩; subst w2))
                go_ret3
                rw [HN.out]
                exact ⟨⟨_, rfl, own_none wr hb.size⟩, hb.alloc hb.size _⟩
              | some r2 =>
                obtain ⟨u, e2⟩ := r2
                obtain ⟨u0, u1, he2⟩ := HF.out.bd HR.out h2
                have CS0 : ∀ w', Calls Tryz.prog 61 #[.string s, .int .i64 (q1 : Int)] w' (fun e w'' => e = .returned (.tuple #[.int .i64 (seO u), .int .i64 (e2 : Int), .bool true]) ∧ w'' = w') := fun w' => specSeF HF.out HR.out w' h2
                obtain ⟨x, hx⟩ : ∃ x, seO u = x := ⟨_, rfl⟩
                have CI := in_any x (-5000) 5000
                cases hlv : levB x with
                | false =>
                  have HN : Hid (st = none) := HST.out.symm.trans (iterR_stays (j := j + 1) (by show stepR F n (iterR F n q j) = none; rw [HI.out]; exact step_fault (oneR_bad h1 h2 (by rw [hx]; exact hlv))) M hlt)
                  rw [hx] at CS0
                  have CS : Hid (∀ w', Calls Tryz.prog 61 #[.string s, .int .i64 (q1 : Int)] w' (fun e w'' => e = .returned (.tuple #[.int .i64 x, .int .i64 (e2 : Int), .bool true]) ∧ w'' = w')) := CS0
                  unfold levB at hlv
                  clear h1 h2 hx CS0 u0 u1
                  by_cases hx0 : x = 0
                  · subst hx0
                    clear CI hlv
                    go_wp2_with (first
                      | (go_at_call 60; refine (CU.out _).mono ?_; rintro e w2 ⟨rfl, hw⟩; subst w2)
                      | (go_at_call 61; refine (CS.out _).mono ?_; rintro e w2 ⟨rfl, hw⟩; subst w2))
                    go_ret3
                    rw [HN.out]
                    exact ⟨⟨_, rfl, own_none wr hb.size⟩, hb.alloc hb.size _⟩
                  · have e9 : (decide (-5000 ≤ x) && decide (x ≤ 5000)) = false := by
                      rw [decide_eq_false hx0, Bool.not_false, Bool.true_and] at hlv
                      exact hlv
                    rw [e9] at CI
                    have HC : Hid (∀ w', Calls Tryz.prog 43 #[.int .i64 x, .int .i64 (-5000), .int .i64 5000] w' (fun e w'' => e = .returned (.bool false) ∧ w'' = w')) := CI
                    clear CI hlv e9
                    go_wp2_with (first
                      | (go_at_call 60; refine (CU.out _).mono ?_; rintro e w2 ⟨rfl, hw⟩; subst w2)
                      | (go_at_call 61; refine (CS.out _).mono ?_; rintro e w2 ⟨rfl, hw⟩; subst w2)
                      | (go_at_call 43; refine (HC.out _).mono ?_; rintro e w2 ⟨rfl, hw⟩; subst w2))
                    go_ret3
                    rw [HN.out]
                    exact ⟨⟨_, rfl, own_none wr hb.size⟩, hb.alloc hb.size _⟩
                | true =>
                  have HI2 : Hid (iterR F n q (j + 1) = some (updF g (k + Z) x, k + Z + 1, e2)) := by
                    show stepR F n (iterR F n q j) = _
                    rw [HI.out]
                    have := oneR_some h1 h2 (by rw [hx]; exact hlv)
                    rw [hx, Int.toNat_natCast] at this
                    exact step_on this (by omega)
                  rw [hx] at CS0
                  have CS : Hid (∀ w', Calls Tryz.prog 61 #[.string s, .int .i64 (q1 : Int)] w' (fun e w'' => e = .returned (.tuple #[.int .i64 x, .int .i64 (e2 : Int), .bool true]) ∧ w'' = w')) := CS0
                  unfold levB at hlv
                  obtain ⟨y1, y2⟩ : (!decide (x = 0)) = true ∧ (decide (-5000 ≤ x) && decide (x ≤ 5000)) = true := by simpa using hlv
                  have hx0 : ¬ x = 0 := by simpa using y1
                  rw [y2] at CI
                  have HC : Hid (∀ w', Calls Tryz.prog 43 #[.int .i64 x, .int .i64 (-5000), .int .i64 5000] w' (fun e w'' => e = .returned (.bool true) ∧ w'' = w')) := CI
                  obtain ⟨y, hy⟩ : ∃ y : Nat, k + Z = y := ⟨_, rfl⟩
                  have hyI : (k : Int) + (Z : Int) = (y : Int) := by omega
                  rw [hy] at HI2
                  have yn : y < n := by omega
                  have yn0 : (0 : Int) ≤ (y : Int) := by omega
                  have yn1 : (y : Int) < (n : Int) := by omega
                  have hcc := hown.cellAt y (by omega)
                  have hc' : wr.cell? ⟨w.heap.size, y, none⟩ = some (.int .i64 (g y)) := by rw [hcc]; exact map_at _ yn
                  have hfz := hown.frozenAt y
                  have hst := hown.stored y (.int .i64 x)
                  rw [upd_set] at hst
                  have hos : Hid ((wr.setCell ⟨w.heap.size, y, none⟩ (.int .i64 x)).ownsRow w.heap.size 3 1 (.slice (some ⟨w.heap.size, 0, none⟩) n n) n ((listF n (updF g y x)).map (Value.int .i64))) := hst.1
                  have hbs : Hid (Below w.heap.size w (wr.setCell ⟨w.heap.size, y, none⟩ (.int .i64 x))) := hb.grown hst.2 hb.size (fun j hj => by cases hj; exact Nat.le_refl _)
                  generalize g y = gy at *
                  clear h1 h2 hx CS0 hlv y1 y2 CI hst hcc hown u0 u1 hy z0 z1 hfar
                  go_wp2_with (first
                    | (go_at_call 60; refine (CU.out _).mono ?_; rintro e w2 ⟨rfl, hw⟩; subst w2)
                    | (go_at_call 61; refine (CS.out _).mono ?_; rintro e w2 ⟨rfl, hw⟩; subst w2)
                    | (go_at_call 43; refine (HC.out _).mono ?_; rintro e w2 ⟨rfl, hw⟩; subst w2))
                  go_roundw
                  case rel => exact ⟨j + 1, _, y + 1, e2, by omega, by go_num, by go_num, rfl, HI2, hos.out, hbs.out⟩
                  case measure => simp [intOf]; omega
        · obtain rfl : j = M := by omega
          have HN : Hid (st = some (g, k, p')) := HST.out.symm.trans HI.out
          go_wp2
          go_ret3
          rw [HN.out]
          exact ⟨⟨_, rfl, by show wr.ownsRow w.heap.size 3 1 _ (listF n g).length _; rw [listF_length]; exact hown⟩, hb⟩
end Go.Proofs.YtnlbigjfnjcldaaGreat

namespace Go.Proofs.YtnlbigjfnjcldaaGreat
open Go.RowKit
set_option linter.unusedVariables false

/-- What is read of a row at a place, of a list of n numbers: nothing where one of the three is not right. -/
def rdSt (F : Nat → Option (Int × Nat)) (s : ByteArray) (a n : Int) : RSt := if placeB s a = true ∧ (n = 16 ∨ n = 64) then readR F n.toNat a.toNat else none
theorem rdSt_yes {F : Nat → Option (Int × Nat)} {s : ByteArray} {p n : Nat} (hp : p ≤ s.size) (hr : rowOkB s = true) (hn : n = 16 ∨ n = 64) : rdSt F s (p : Int) (n : Int) = readR F n p := by
  unfold rdSt
  rw [if_pos ⟨placeB_yes s p (by omega) hr, by omega⟩]
  rfl
theorem rdSt_no {F : Nat → Option (Int × Nat)} {s : ByteArray} {a n : Int} (h : ¬ (placeB s a = true ∧ (n = 16 ∨ n = 64))) : rdSt F s a n = none := if_neg h

end Go.Proofs.YtnlbigjfnjcldaaGreat

namespace Go.Proofs.YtnlbigjfnjcldaaGreat
open Go.RowKit
set_option linter.unusedVariables false

set_option maxHeartbeats 4000000 in
set_option maxRecDepth 20000 in
theorem implRunsAt {s : ByteArray} {F : Nat → Option (Int × Nat)} (hF : IsCnt s F) (hr : rowOkB s = true) (p n : Nat) (w : World) (hp : p ≤ s.size) (hn0 : 16 ≤ n) (hn1 : n ≤ 64) :
    Calls Tryz.prog 124 #[.string s, .int .i64 (p : Int), .int .i64 (n : Int)] w fun e w' => (∃ v, e = .returned (.tuple #[v, .int .i64 (ansE (readR F n p)), .bool (ansY (readR F n p))]) ∧ w'.ownsRow w.heap.size 3 1 v (ansL n (readR F n p)).length ((ansL n (readR F n p)).map (Value.int .i64))) ∧ Below w.heap.size w w' := by
  obtain ⟨i0, hi0, hz0, hz1, hz2⟩ := info_parts infoI
  have n0 : (16 : Int) ≤ (n : Int) := by omega
  have n1 : (n : Int) ≤ 64 := by omega
  obtain ⟨st, hst⟩ : ∃ st, readR F n p = st := ⟨_, rfl⟩
  rw [hst]
  cases h0 : F p with
  | none =>
    have hN : st = none := by rw [← hst]; exact readR_none h0
    subst hN
    have CU : Hid (∀ w', Calls Tryz.prog 65 #[.int .i64 0, .string s, .int .i64 (p : Int)] w' (fun e w'' => e = .returned (.tuple #[.int .i64 0, .int .i64 0, .bool false]) ∧ w'' = w')) := fun w' => implUeF_no hF hr w' hp h0
    clear hst h0 hF hr hp
    go_enter Tryz.func124, Tryz.ntmps124
    go_wp2_with (go_at_call 65; refine (CU.out _).mono ?_; rintro e w2 ⟨rfl, hw⟩; subst w2)
    go_ret3
    exact ⟨⟨_, rfl, own_none w (Nat.le_refl _)⟩, (Below.refl _ _).alloc (Nat.le_refl _) _⟩
  | some r =>
    obtain ⟨m, q⟩ := r
    obtain ⟨m0, m1, hq⟩ := hF.bd hr h0
    have CU : Hid (∀ w', Calls Tryz.prog 65 #[.int .i64 0, .string s, .int .i64 (p : Int)] w' (fun e w'' => e = .returned (.tuple #[.int .i64 m, .int .i64 (q : Int), .bool true]) ∧ w'' = w')) := fun w' => implUeF hF hr w' h0
    have hst' : iterR F n q m.toNat = st := by rw [← hst]; exact (readR_some h0).symm
    clear hst h0
    obtain ⟨M, rfl⟩ : ∃ M : Nat, m = (M : Int) := ⟨m.toNat, by omega⟩
    have HST : Hid (iterR F n q M = st) := by have := hst'; rwa [Int.toNat_natCast] at this
    have HF : Hid (IsCnt s F) := hF
    have HR : Hid (rowOkB s = true) := hr
    have HQ : Hid (q ≤ s.size) := hq
    clear hst' hF hr hp hq
    go_enter Tryz.func124, Tryz.ntmps124
    go_wp2_with (first
      | (at_make; refine wpList_make_full _ (by rfl) _ _ 32 (by rfl) w.heap.size 3 i0 (.int .i64 0) 1 Tryz.underlying32 hi0 hz0 hz1 .i64 .i64 _ _ n (by rfl) (by rfl) (by rfl) (by rfl) (by rw [hz2]; omega) (by unfold maxLen; omega) (Nat.le_refl _) ?_; intro w1 hown0 hgrow0; have hb0 : Below w.heap.size w w1 := (Below.refl _ _).grown hgrow0 (Nat.le_refl _) (fun j hj => by cases hj))
      | (go_at_call 65; refine (CU.out _).mono ?_; rintro e w2 ⟨rfl, hw⟩; subst w2))
    rw [none_made] at hown0
    clear hgrow0 CU
    go_loopw [1, 12, 29] (fun nx kk i wr => ∃ (j : Nat) (g : Nat → Int) (k p' : Nat), j ≤ M ∧ i = .int .i64 (j : Int) ∧ kk = .int .i64 (k : Int) ∧ nx = .int .i64 (p' : Int) ∧ Hid (iterR F n q j = some (g, k, p')) ∧ wr.ownsRow w.heap.size 3 1 (.slice (some ⟨w.heap.size, 0, none⟩) n n) n ((listF n g).map (Value.int .i64)) ∧ Below w.heap.size w wr) (fun _ _ i _ => M - (intOf i).toNat)
    case atStart => exact ⟨0, fun _ => 0, 0, q, Nat.zero_le _, rfl, rfl, rfl, rfl, hown0, hb0⟩
    case round =>
      obtain ⟨j, g, k, p', hj, rfl, rfl, rfl, HI, hown, hb⟩ := hrel
      clear hown0 hb0
      obtain ⟨b1, b2, b3⟩ := iterR_bd HF.out HR.out HQ.out j g k p' HI.out
      have k0 : (0 : Int) ≤ (k : Int) := by omega
      have k1 : (k : Int) ≤ (n : Int) := by omega
      have j0 : (0 : Int) ≤ (j : Int) := by omega
      by_cases hlt : j < M
      · have j1 : (j : Int) < (M : Int) := by omega
        have CR0 := runAt_any HF.out HR.out p' wr b3
        cases h1 : oneR F p' with
        | none =>
          have HN : Hid (st = none) := HST.out.symm.trans (iterR_stays (j := j + 1) (by show stepR F n (iterR F n q j) = none; rw [HI.out]; exact step_fault h1) M hlt)
          rw [h1] at CR0
          have CR : Hid (Calls Tryz.prog 133 #[.string s, .int .i64 (p' : Int)] wr (fun e w' => e = .returned (.tuple #[.agg #[.int .i64 0, .int .i64 0], .int .i64 0, .bool false]) ∧ Below wr.heap.size wr w')) := CR0
          clear h1 CR0
          go_wp2_with (go_at_call 133; refine CR.out.mono ?_; rintro e w2 ⟨rfl, hc2⟩)
          have hb2 := hb.trans (hc2.mono hb.size)
          have hb3 := hb2.alloc hb2.size (.cells #[.int .i64 0, .int .i64 0] 159)
          have HO : Hid (((w2.alloc (.cells #[.int .i64 0, .int .i64 0] 159)).alloc (.cells #[] 3)).ownsRow w.heap.size 3 1 (.slice (some ⟨w2.heap.size + 1, 0, none⟩) 0 0) 0 (([] : List Int).map (Value.int .i64))) := by
            have := own_none (w2.alloc (.cells #[.int .i64 0, .int .i64 0] 159)) hb3.size
            rw [World.size_alloc] at this
            exact this
          go_ret3
          rw [HN.out]
          exact ⟨⟨_, rfl, HO.out⟩, hb3.alloc hb3.size _⟩
        | some r1 =>
          obtain ⟨z, x, e1⟩ := r1
          obtain ⟨c1, c2, c3⟩ := oneR_end HF.out HR.out h1
          rw [h1] at CR0
          have CR : Hid (Calls Tryz.prog 133 #[.string s, .int .i64 (p' : Int)] wr (fun e w' => e = .returned (.tuple #[.agg #[.int .i64 (z : Int), .int .i64 x], .int .i64 (e1 : Int), .bool true]) ∧ Below wr.heap.size wr w')) := CR0
          have z0 : (0 : Int) ≤ (z : Int) := by omega
          have z1 : (z : Int) ≤ 1000000 := by omega
          obtain ⟨y, hy⟩ : ∃ y : Nat, k + z = y := ⟨_, rfl⟩
          have hyI : (k : Int) + (z : Int) = (y : Int) := by omega
          have y0 : (0 : Int) ≤ (y : Int) := by omega
          by_cases hfar : n ≤ k + z
          · have HN : Hid (st = none) := HST.out.symm.trans (iterR_stays (j := j + 1) (by show stepR F n (iterR F n q j) = none; rw [HI.out]; exact step_far h1 hfar) M hlt)
            have hfI : (n : Int) ≤ (y : Int) := by omega
            clear h1 CR0 hfar c3 hy
            go_wp2_with (go_at_call 133; refine CR.out.mono ?_; rintro e w2 ⟨rfl, hc2⟩)
            have hb2 := hb.trans (hc2.mono hb.size)
            have hb3 := hb2.alloc hb2.size (.cells #[.int .i64 (z : Int), .int .i64 x] 159)
            have HO : Hid (((w2.alloc (.cells #[.int .i64 (z : Int), .int .i64 x] 159)).alloc (.cells #[] 3)).ownsRow w.heap.size 3 1 (.slice (some ⟨w2.heap.size + 1, 0, none⟩) 0 0) 0 (([] : List Int).map (Value.int .i64))) := by
              have := own_none (w2.alloc (.cells #[.int .i64 (z : Int), .int .i64 x] 159)) hb3.size
              rw [World.size_alloc] at this
              exact this
            go_ret3
            rw [HN.out]
            exact ⟨⟨_, rfl, HO.out⟩, hb3.alloc hb3.size _⟩
          · have HI2 : Hid (iterR F n q (j + 1) = some (updF g y x, y + 1, e1)) := by
              show stepR F n (iterR F n q j) = _
              rw [HI.out, ← hy]
              exact step_on h1 hfar
            have yn : y < n := by omega
            have y1 : (y : Int) < (n : Int) := by omega
            have hd : ¬ n ≤ y := by omega
            clear h1 CR0 hfar c3 hy
            go_wp2_with fail
            refine CR.out.mono ?_
            rintro e w2 ⟨rfl, hc2⟩
            have hb2 := hb.trans (hc2.mono hb.size)
            have hown3 := (owned_below hown hc2).alloc (.cells #[.int .i64 (z : Int), .int .i64 x] 159)
            have hb3 := hb2.alloc hb2.size (.cells #[.int .i64 (z : Int), .int .i64 x] 159)
            have hlt2 : w.heap.size < w2.heap.size := by
              have h7 := (hown.lt w.heap.size rfl).2
              have h8 := hc2.size
              omega
            have hcc := hown3.cellAt y (by omega)
            have hc' : (w2.alloc (.cells #[.int .i64 (z : Int), .int .i64 x] 159)).cell? ⟨w.heap.size, y, none⟩ = some (.int .i64 (g y)) := by rw [hcc]; exact map_at _ yn
            have hc2' : w2.cell? ⟨w.heap.size, y, none⟩ = some (.int .i64 (g y)) := by
              rw [(owned_below hown hc2).cellAt y (by omega)]; exact map_at _ yn
            have hfz := hown3.frozenAt y
            have hfz2 := (owned_below hown hc2).frozenAt y
            have hst := (owned_below hown hc2).stored y (.int .i64 x)
            rw [upd_set] at hst
            have hos : Hid (((w2.setCell ⟨w.heap.size, y, none⟩ (.int .i64 x)).alloc (.cells #[.int .i64 (z : Int), .int .i64 x] 159)).ownsRow w.heap.size 3 1 (.slice (some ⟨w.heap.size, 0, none⟩) n n) n ((listF n (updF g y x)).map (Value.int .i64))) := hst.1.alloc _
            have hbx : Below w.heap.size w (w2.setCell ⟨w.heap.size, y, none⟩ (.int .i64 x)) := hb2.grown hst.2 hb2.size (fun j hj => by cases hj; exact Nat.le_refl _)
            have hbs : Hid (Below w.heap.size w ((w2.setCell ⟨w.heap.size, y, none⟩ (.int .i64 x)).alloc (.cells #[.int .i64 (z : Int), .int .i64 x] 159))) := hbx.alloc hbx.size _
            generalize g y = gy at *
            clear hst hcc hown hown3 hb3 hbx hb2 hc2 hb CR
            go_wp2
            go_roundw
            case rel => exact ⟨j + 1, _, y + 1, e1, by omega, by go_num, by go_num, rfl, HI2, hos.out, hbs.out⟩
            case measure => simp [intOf]; omega
      · obtain rfl : j = M := by omega
        have HN : Hid (st = some (g, k, p')) := HST.out.symm.trans HI.out
        go_wp2
        go_ret3
        rw [HN.out]
        exact ⟨⟨_, rfl, by show wr.ownsRow w.heap.size 3 1 _ (listF n g).length _; rw [listF_length]; exact hown⟩, hb⟩
end Go.Proofs.YtnlbigjfnjcldaaGreat

namespace Go.Proofs.YtnlbigjfnjcldaaGreat
open Go.RowKit
set_option linter.unusedVariables false

theorem cnt_put {s p q : ByteArray} {F : Nat → Option (Int × Nat)} (hF : IsCnt s F) {n : Int} (h0 : 0 ≤ n) (h1 : n ≤ 1000000) (hs : s = p ++ ueS n ++ q) : F p.size = some (n, p.size + (ueL n).length) := by
  have hc := counted_put p q n h0 h1
  rw [← hs] at hc
  rw [hF.of hc]
  obtain ⟨a1, a2, a3⟩ := ueL_len n h0 h1
  rw [a1]
  congr 2
  omega
theorem rn_prefix (xs : List Int) (t : Nat) : ∀ d, ∃ r, rnF xs (t + d) = rnF xs t ++ r
  | 0 => ⟨[], by rw [List.append_nil]; rfl⟩
  | d + 1 => by
    obtain ⟨r, hr⟩ := rn_prefix xs t d
    by_cases h : xs.getD (t + d) 0 = 0
    · exact ⟨r, by show rnF xs (t + d + 1) = _; rw [rnF_nought h, hr]⟩
    · exact ⟨r ++ [(zrF xs (t + d), xs.getD (t + d) 0)], by show rnF xs (t + d + 1) = _; rw [rnF_level h, hr, List.append_assoc]⟩
theorem rn_prefix' (xs : List Int) {t n : Nat} (h : t ≤ n) : ∃ r, rnF xs n = rnF xs t ++ r := by
  obtain ⟨r, hr⟩ := rn_prefix xs t (n - t)
  exact ⟨r, by rw [← hr]; congr 1; omega⟩

/-- As far as t numbers of the list have been gone through. -/
theorem iter_put {xs : List Int} {s P Q : ByteArray} {F : Nat → Option (Int × Nat)} (hF : IsCnt s F) (hl : xs.length ≤ 64) (hb : inB 5000 xs = true) (hs : s = P ++ strOfNums (rowL (rnF xs xs.length)) ++ Q) :
    ∀ t, t ≤ xs.length → iterR F xs.length (P.size + (ueL ((rnF xs xs.length).length : Int)).length) (rnF xs t).length = some ((fun i => if i < t then xs.getD i 0 else 0), t - zrF xs t, P.size + (ueL ((rnF xs xs.length).length : Int)).length + (bodyL (rnF xs t)).length)
  | 0, _ => by
    show some _ = some _
    congr 2
  | t + 1, ht => by
    have ih := iter_put hF hl hb hs t (by omega)
    have hz := zr_rn_le xs t
    by_cases h : xs.getD t 0 = 0
    · rw [rnF_nought h, zrF_nought h, ih]
      congr 2
      · funext i
        by_cases h1 : i < t
        · rw [if_pos h1, if_pos (by omega)]
        · by_cases h2 : i = t
          · rw [if_neg h1, if_pos (by omega), h2, h]
          · rw [if_neg h1, if_neg (by omega)]
      · congr 1
        omega
    · obtain ⟨r, hr⟩ := rn_prefix' xs (t := t + 1) ht
      have hx := inB_iff.1 hb t (by omega)
      have hs1 := seF_in hx
      rw [rnF_level h] at hr
      have e : s = (P ++ strOfNums (ueL ((rnF xs xs.length).length : Int) ++ bodyL (rnF xs t))) ++ ueS (zrF xs t : Int) ++ (strOfNums (ueL (seF (xs.getD t 0)) ++ bodyL r) ++ Q) := by
        rw [hs, ueS_is]
        rw [ByteArray.append_assoc, ByteArray.append_assoc, ByteArray.append_assoc]
        congr 1
        rw [← ByteArray.append_assoc, ← ByteArray.append_assoc]
        congr 1
        rw [strOfNums_app, strOfNums_app]
        congr 1
        unfold rowL
        rw [List.append_assoc, List.append_assoc]
        congr 1
        rw [hr, bodyL_append, bodyL_append, bodyL_one]
        unfold runL
        simp only [List.append_assoc]
      have e2 : s = (P ++ strOfNums (ueL ((rnF xs xs.length).length : Int) ++ bodyL (rnF xs t) ++ ueL (zrF xs t : Int))) ++ ueS (seF (xs.getD t 0)) ++ (strOfNums (bodyL r) ++ Q) := by
        rw [e, ueS_is, ueS_is]
        rw [ByteArray.append_assoc, ByteArray.append_assoc, ByteArray.append_assoc, ByteArray.append_assoc]
        congr 1
        rw [← ByteArray.append_assoc, ← ByteArray.append_assoc, ← ByteArray.append_assoc, ← ByteArray.append_assoc]
        congr 1
        rw [strOfNums_app, strOfNums_app, strOfNums_app, strOfNums_app]
        congr 1
        simp only [List.append_assoc]
      have c1 := cnt_put hF (by omega) (by omega) e
      have c2 := cnt_put hF hs1.1 (by omega) e2
      rw [ByteArray.size_append, sizeS, List.length_append, ← Nat.add_assoc] at c1
      rw [ByteArray.size_append, sizeS, List.length_append, List.length_append, ← Nat.add_assoc, ← Nat.add_assoc] at c2
      have hlv : levB (seO (seF (xs.getD t 0))) = true := by
        rw [seO_seF]
        unfold levB
        rw [decide_eq_false h, decide_eq_true hx.1, decide_eq_true hx.2]
        rfl
      have c3 := oneR_some c1 c2 hlv
      rw [seO_seF, Int.toNat_natCast] at c3
      rw [rnF_level h, zrF_level h, List.length_append]
      show stepR F xs.length (iterR F xs.length _ (rnF xs t).length) = _
      rw [ih, step_on c3 (by omega), show t - zrF xs t + zrF xs t = t by omega]
      congr 2
      · funext i
        unfold updF
        by_cases h1 : i = t
        · rw [if_pos h1, if_pos (by omega), h1]
        · rw [if_neg h1]
          show (if i < t then xs.getD i 0 else 0) = _
          by_cases h2 : i < t
          · rw [if_pos h2, if_pos (by omega)]
          · rw [if_neg h2, if_neg (by omega)]
      · congr 1
        rw [bodyL_append, bodyL_one, List.length_append]
        unfold runL
        rw [List.length_append]
        dsimp only
        omega
/-- What is put is read: the list, the place behind it, and true. -/
theorem read_put {xs : List Int} {s P Q : ByteArray} {F : Nat → Option (Int × Nat)} (hF : IsCnt s F) (hy : rnOk xs = true) (hs : s = P ++ rnS xs ++ Q) (hr : rowOkB s = true) :
    ansL xs.length (rdSt F s (P.size : Int) (xs.length : Int)) = xs ∧ ansE (rdSt F s (P.size : Int) (xs.length : Int)) = (P.size : Int) + ((rnS xs).size : Int) ∧ ansY (rdSt F s (P.size : Int) (xs.length : Int)) = true := by
  obtain ⟨h1, h2⟩ := rnOk_of hy
  have hl : xs.length ≤ 64 := by rcases h1 with h | h <;> omega
  have e0 : rnS xs = strOfNums (rowL (rnF xs xs.length)) := if_pos hy
  rw [e0] at hs ⊢
  have hz := zr_rn_le xs xs.length
  have hp : P.size ≤ s.size := by rw [hs, ByteArray.size_append, ByteArray.size_append]; omega
  have hc := iter_put hF hl h2 hs xs.length (Nat.le_refl _)
  have e1 : s = P ++ ueS ((rnF xs xs.length).length : Int) ++ (strOfNums (bodyL (rnF xs xs.length)) ++ Q) := by
    rw [hs, ueS_is]
    unfold rowL
    rw [← strOfNums_app, ByteArray.append_assoc, ByteArray.append_assoc, ByteArray.append_assoc]
  have c1 := cnt_put hF (by omega) (by omega) e1
  have e2 : rdSt F s (P.size : Int) (xs.length : Int) = readR F xs.length P.size := by
    unfold rdSt
    rw [if_pos ⟨placeB_yes s P.size (by omega) hr, by omega⟩]
    rfl
  rw [e2, readR_some c1, Int.toNat_natCast, hc]
  refine ⟨?_, ?_, rfl⟩
  · show listF xs.length (fun i => if i < xs.length then xs.getD i 0 else 0) = xs
    have := listF_self xs
    exact (listF_congr fun i hi => by rw [if_pos hi]).trans this
  · show ((P.size + (ueL ((rnF xs xs.length).length : Int)).length + (bodyL (rnF xs xs.length)).length : Nat) : Int) = _
    rw [sizeS]
    unfold rowL
    rw [List.length_append]
    omega
theorem rnS_signs {xs : List Int} (hy : rnOk xs = true) : Signs (nums (rnS xs)) := by
  have e0 : rnS xs = strOfNums (rowL (rnF xs xs.length)) := if_pos hy
  rw [e0, nums_of _ (rowL_signs _).bd]
  exact rowL_signs _
theorem rn_noughts {xs : List Int} (h : ∀ i, i < xs.length → xs.getD i 0 = 0) : ∀ k, k ≤ xs.length → rnF xs k = []
  | 0, _ => rfl
  | k + 1, hk => by rw [rnF_nought (h k (by omega))]; exact rn_noughts h k (by omega)
theorem noughts_row {n : Nat} (hn : n = 16 ∨ n = 64) : rnOk (listF n (fun _ => 0)) = true ∧ rnS (listF n (fun _ => 0)) = ⟨#[49]⟩ := by
  have hy : rnOk (listF n (fun _ => 0)) = true := by
    unfold rnOk
    rw [listF_length]
    have : inB 5000 (listF n (fun _ => 0)) = true := inB_iff.2 fun i hi => by
      rw [listF_length] at hi
      rw [listF_get _ hi]
      omega
    rw [this]
    rcases hn with rfl | rfl <;> rfl
  refine ⟨hy, ?_⟩
  have e0 : rnS (listF n (fun _ => 0)) = strOfNums (rowL (rnF (listF n (fun _ => 0)) (listF n (fun _ => 0)).length)) := if_pos hy
  rw [e0, rn_noughts (fun i hi => by rw [listF_length] at hi; exact listF_get _ hi) _ (Nat.le_refl _)]
  decide +kernel
end Go.Proofs.YtnlbigjfnjcldaaGreat
