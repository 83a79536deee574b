/-
  The walks of impl's countKind.readAt and read, and of spec.l03ReadUe: a counted number out of a row.
-/
import Derived.Test.YtlejfkjanllgbaaDoorShelf
import Derived.Test.YtlejfkjanllgbaaDoorCountMath
import Derived.Test.YtlejfkjanllgbaaDoorReadAt
import Derived.Test.YtlejfkjanllgbaaDoorReadOne
import Derived.Test.YtlejfkjanllgbaaDoorFoldWalks
namespace Go.Proofs.YtlejfkjanllgbaaDoor
open Go.RowKit
set_option linter.unusedVariables false
set_option maxRecDepth 20000

/-- A kind opens what is counted, and refuses what is above it. -/
abbrev Opens (k : Int) (f : Int → Int) : Prop := ∀ (u : Int) (w : World), 0 ≤ u → u ≤ 1000000 → Calls Tryd.prog 120 #[.int .i64 k, .int .i64 u] w fun e w' => e = .returned (.tuple #[.int .i64 (f u), .bool true]) ∧ w' = w
abbrev OpensNot (k : Int) : Prop := ∀ (u : Int) (w : World), 1000000 < u → Calls Tryd.prog 120 #[.int .i64 k, .int .i64 u] w fun e w' => e = .returned (.tuple #[.int .i64 0, .bool false]) ∧ w' = w

theorem index_any (s : ByteArray) (w : World) :
    Calls Tryd.prog 118 #[.string s, .int .u8 49] w fun e w' => e = .returned (.int .i64 (Lib.indexByte s.data.toList 49)) ∧ w' = w := Tryd.strings_IndexByte s 49 w

set_option maxHeartbeats 1000000 in
theorem implReadAt (k : Int) (f : Int → Int) (s : ByteArray) (a z : Nat) (n : Int) (w : World) (ho : Opens k f) (hr : rowOkB s = true) (hc : Counted s a z n) :
    Calls Tryd.prog 96 #[.int .i64 k, .string s, .int .i64 a] w fun e w' => e = .returned (.tuple #[.int .i64 (f n), .int .i64 ((a : Int) + (z : Int) + ((z : Int) + 1)), .bool true]) ∧ w' = w := by
  have h4 := (rowOkB_true s hr).1
  have hrow := (rowOkB_true s hr).2
  have hlt := hc.first.lt
  have hf := hc.fits
  have hn := hc.num
  have ht := hc.top
  have hz := hc.z20
  have h1 := readN_first s (a + z) hc.first.one z (by omega) hrow
  have hp : (1 : Int) ≤ 2 ^ z := Int.pow_pos (by decide)
  have hn0 : 0 ≤ n := by omega
  have hi : Lib.indexByte (s.extract a s.size).data.toList 49 = (z : Int) := by
    have hge := Lib.indexByte_ge (s.extract a s.size).data.toList 49
    by_cases c : Lib.indexByte (s.extract a s.size).data.toList 49 = -1
    · exact absurd hc.first (index_none s a hrow c z)
    · obtain ⟨y, hy⟩ := Int.eq_ofNat_of_zero_le (show 0 ≤ Lib.indexByte (s.extract a s.size).data.toList 49 by omega)
      have := (index_first s a y hrow hy).uniq hc.first
      omega
  have hat := implAt s (a + z) (z + 1) w hr (by omega) (by omega)
  rw [hn] at hat
  have HO : Hid (Opens k f) := ho
  have HI : Hid (Lib.indexByte (s.extract a s.size).data.toList 49 = (z : Int)) := hi
  have HA : Hid (Calls Tryd.prog 119 #[.string s, .int .i64 ((a : Int) + (z : Int)), .int .i64 ((z : Int) + 1)] w fun e w' => e = .returned (.tuple #[.int .i64 (n + 1), .int .i64 ((a : Int) + (z : Int) + ((z : Int) + 1)), .bool true]) ∧ w' = w) := by
    refine hat.mono ?_
    rintro e w1 ⟨rfl, rfl⟩
    exact ⟨by simp, rfl⟩
  have c1 : (a : Int) + (z : Int) < (s.size : Int) := by omega
  have c2 : (s.size : Int) ≤ 400000 := by omega
  clear hc hn hf hlt h4 hr hrow ho hi hat h1 hp
  go_enter Tryd.func96, Tryd.ntmps96
  go_wp2_with (first
    | (go_at_call 118; refine (index_any _ _).mono ?_; rintro e w1 ⟨rfl, hw⟩; subst w1; rw [HI.out])
    | (go_at_call 119; refine HA.out.mono ?_; rintro e w1 ⟨rfl, hw⟩; subst w1)
    | (go_at_call 120; refine (HO.out _ _ (by omega) (by omega)).mono ?_; rintro e w1 ⟨rfl, hw⟩; subst w1))
  go_ret3
  exact ⟨rfl, rfl⟩

/-- No counted number stands at a. -/
abbrev CountedNot (s : ByteArray) (a : Nat) : Prop := ∀ z n, ¬ Counted s a z n
theorem counted_big (s : ByteArray) (a z : Nat) (hr : rowB s = true) (hf : First s a z) (hfit : a + z + (z + 1) ≤ s.size) (h : CountedNot s a) : 1000000 < readN s (a + z) (z + 1) - 1 ∧ (2 : Int) ^ z ≤ readN s (a + z) (z + 1) := by
  have h1 := readN_first s (a + z) hf.one z (by omega) hr
  refine ⟨?_, h1⟩
  by_cases c : readN s (a + z) (z + 1) - 1 ≤ 1000000
  · exfalso
    have hz : z ≤ 20 := by
      by_cases d : z ≤ 20
      · exact d
      · have := pow_le (a := 21) (b := z) (by omega)
        have e : (2 : Int) ^ 21 = 2097152 := by decide
        omega
    exact h z (readN s (a + z) (z + 1) - 1) ⟨hf, hz, hfit, by omega, c⟩
  · omega

set_option maxHeartbeats 1000000 in
theorem implReadAtNo (k : Int) (s : ByteArray) (a : Nat) (w : World) (ho : OpensNot k) (hr : rowOkB s = true) (ha : (a : Int) ≤ (s.size : Int)) (h : CountedNot s a) :
    Calls Tryd.prog 96 #[.int .i64 k, .string s, .int .i64 a] w fun e w' => e = .returned (.tuple #[.int .i64 0, .int .i64 0, .bool false]) ∧ w' = w := by
  have h4 := (rowOkB_true s hr).1
  have hrow := (rowOkB_true s hr).2
  have c2 : (s.size : Int) ≤ 400000 := by omega
  have hge := Lib.indexByte_ge (s.extract a s.size).data.toList 49
  by_cases c : Lib.indexByte (s.extract a s.size).data.toList 49 = -1
  · have HI : Hid (Lib.indexByte (s.extract a s.size).data.toList 49 = -1) := c
    clear c hge h4 hrow ho h hr
    go_enter Tryd.func96, Tryd.ntmps96
    go_wp2_with (go_at_call 118; refine (index_any _ _).mono ?_; rintro e w1 ⟨rfl, hw⟩; subst w1; rw [HI.out])
    go_ret3
    exact ⟨rfl, rfl⟩
  · obtain ⟨z, hz⟩ := Int.eq_ofNat_of_zero_le (show 0 ≤ Lib.indexByte (s.extract a s.size).data.toList 49 by omega)
    have hf := index_first s a z hrow hz
    have hlt := hf.lt
    have c1 : (a : Int) + (z : Int) < (s.size : Int) := by omega
    have HI : Hid (Lib.indexByte (s.extract a s.size).data.toList 49 = (z : Int)) := hz
    by_cases d : 30 < (z : Int) + 1 ∨ (s.size : Int) - ((a : Int) + (z : Int)) < (z : Int) + 1
    · have HA : Hid (Calls Tryd.prog 119 #[.string s, .int .i64 ((a : Int) + (z : Int)), .int .i64 ((z : Int) + 1)] w fun e w' => e = .returned (.tuple #[.int .i64 0, .int .i64 0, .bool false]) ∧ w' = w) := implAtNo s ((a : Int) + (z : Int)) ((z : Int) + 1) w c2 (by omega) (by omega) (.inr d)
      clear c hge h4 hrow ho h hr hz d hf hlt
      go_enter Tryd.func96, Tryd.ntmps96
      go_wp2_with (first
        | (go_at_call 118; refine (index_any _ _).mono ?_; rintro e w1 ⟨rfl, hw⟩; subst w1; rw [HI.out])
        | (go_at_call 119; refine HA.out.mono ?_; rintro e w1 ⟨rfl, hw⟩; subst w1))
      go_ret3
      exact ⟨rfl, rfl⟩
    · have hb := (counted_big s a z hrow hf (by omega) h).1
      have hbd := readN_bd s (a + z) (z + 1) hrow (by omega) (by omega)
      have hat := implAt s (a + z) (z + 1) w hr (by omega) (by omega)
      generalize readN s (a + z) (z + 1) = m at hb hbd hat
      have HO : Hid (OpensNot k) := ho
      have HA : Hid (Calls Tryd.prog 119 #[.string s, .int .i64 ((a : Int) + (z : Int)), .int .i64 ((z : Int) + 1)] w fun e w' => e = .returned (.tuple #[.int .i64 m, .int .i64 ((a : Int) + (z : Int) + ((z : Int) + 1)), .bool true]) ∧ w' = w) := by
        refine hat.mono ?_
        rintro e w1 ⟨rfl, rfl⟩
        exact ⟨by simp, rfl⟩
      obtain ⟨m0, m1⟩ := hbd
      clear c hge h4 hrow ho h hr hz d hf hlt hat
      go_enter Tryd.func96, Tryd.ntmps96
      go_wp2_with (first
        | (go_at_call 118; refine (index_any _ _).mono ?_; rintro e w1 ⟨rfl, hw⟩; subst w1; rw [HI.out])
        | (go_at_call 119; refine HA.out.mono ?_; rintro e w1 ⟨rfl, hw⟩; subst w1)
        | (go_at_call 120; refine (HO.out _ _ (by omega)).mono ?_; rintro e w1 ⟨rfl, hw⟩; subst w1))
      go_ret3
      exact ⟨rfl, rfl⟩

/-- No counted number stands at a, or it is no row. -/
abbrev CountNo (s : ByteArray) (a : Int) : Prop := rowOkB s = true → ∀ b : Nat, a = (b : Int) → CountedNot s b

end Go.Proofs.YtlejfkjanllgbaaDoor
