/-
  The walks of impl's countKind.figures, size and row: the row of a counted number, whatever its kind.
  The walks of UeRow, SeRow, UeSize and SeSize, of impl and of spec.
  The walks of impl's countKind.readAt and read, and of spec.l03ReadUe: a counted number out of a row.
  The walk of spec.l03ReadUe: a counted number out of what is known to be a row.
  The walks of ReadUe and ReadSe, of impl and of spec.
-/
import Derived.Test.YtdokmojifkggjaaDoorShelf
import Derived.Test.YtdokmojifkggjaaDoorCountMath
import Derived.Test.YtdokmojifkggjaaDoorMFixKit
import Derived.Test.YtdokmojifkggjaaDoorMInKit
import Derived.Test.YtdokmojifkggjaaDoorCountSpec
namespace Go.Proofs.YtdokmojifkggjaaDoor
open Go.RowKit
set_option linter.unusedVariables false
set_option maxRecDepth 20000

/-- A kind folds n to u. -/
abbrev Folds (k n u : Int) : Prop := ∀ w : World, Calls Tryd.prog 82 #[.int .i64 k, .int .i64 n] w fun e w' => e = .returned (.tuple #[.int .i64 u, .bool true]) ∧ w' = w
/-- A kind has no row for n. -/
abbrev FoldsNot (k n : Int) : Prop := ∀ w : World, Calls Tryd.prog 82 #[.int .i64 k, .int .i64 n] w fun e w' => e = .returned (.tuple #[.int .i64 0, .bool false]) ∧ w' = w

theorem len_any (u : Int) (w : World) (h0 : 0 ≤ u) (h1 : u ≤ 1000001) :
    Calls Tryd.prog 83 #[.int .u64 u] w fun e w' => e = .returned (.int .i64 (wid u)) ∧ w' = w := Tryd.bits_Len u w h0 (by omega)
theorem repeat_zero (k : Int) (w : World) (h0 : 0 ≤ k) (h1 : k ≤ 100) :
    Calls Tryd.prog 76 #[.string ⟨#[48]⟩, .int .i64 k] w fun e w' => e = .returned (.string (strOfNums (List.replicate k.toNat 48))) ∧ Below w.heap.size w w' := by
  obtain ⟨n, rfl⟩ := Int.eq_ofNat_of_zero_le h0
  have e : ∀ n : Nat, (⟨(Lib.repeatL (⟨#[48]⟩ : ByteArray).data.toList n).toArray⟩ : ByteArray) = strOfNums (List.replicate n 48) := by
    intro n
    apply ByteArray.ext
    apply Array.ext'
    rw [strOfNums_data]
    show Lib.repeatL [48] n = _
    rw [List.map_replicate]
    induction n with
    | zero => rfl
    | succ n ih => rw [Lib.repeatL, ih, List.replicate_succ]; rfl
  have h := Tryd.strings_Repeat ⟨#[48]⟩ n w (by omega) (by show 1 * n ≤ _; omega)
  rw [e n] at h
  exact h

set_option maxHeartbeats 1000000 in
theorem implFig (k n u : Int) (w : World) (hf : Folds k n u) (h0 : 0 ≤ u) (h1 : u ≤ 1000000) :
    Calls Tryd.prog 75 #[.int .i64 k, .int .i64 n] w fun e w' => e = .returned (.tuple #[.int .i64 (u + 1), .int .i64 (wid (u + 1))]) ∧ w' = w := by
  have HF : Hid (Folds k n u) := hf
  clear hf
  go_enter Tryd.func75, Tryd.ntmps75
  go_wp2_with (first
    | (go_at_call 82; refine (HF.out _).mono ?_; rintro e w1 ⟨rfl, hw⟩; subst w1)
    | (go_at_call 83; refine (len_any _ _ (by omega) (by omega)).mono ?_; rintro e w1 ⟨rfl, hw⟩; subst w1))
  go_ret2
  exact ⟨rfl, rfl⟩
theorem implFig_no (k n : Int) (w : World) (hf : FoldsNot k n) :
    Calls Tryd.prog 75 #[.int .i64 k, .int .i64 n] w fun e w' => e = .returned (.tuple #[.int .i64 0, .int .i64 0]) ∧ w' = w := by
  have HF : Hid (FoldsNot k n) := hf
  clear hf
  go_enter Tryd.func75, Tryd.ntmps75
  go_wp2_with (go_at_call 82; refine (HF.out _).mono ?_; rintro e w1 ⟨rfl, hw⟩; subst w1)
  go_ret2
  exact ⟨rfl, rfl⟩

set_option maxHeartbeats 1000000 in
theorem implRow (k n u : Int) (w : World) (hf : Folds k n u) (h0 : 0 ≤ u) (h1 : u ≤ 1000000) :
    Calls Tryd.prog 59 #[.int .i64 k, .int .i64 n] w fun e w' => e = .returned (.tuple #[.string (ueS u), .bool true]) ∧ Below w.heap.size w w' := by
  have HF : Hid (Folds k n u) := hf
  clear hf
  obtain ⟨l1, l20, _, wu⟩ := wid_pow (u + 1) (by omega) (by omega)
  have hj := ueS_join u
  have hg := implFig k n u w HF.out h0 h1
  have hx := fun w => implFix (u + 1) (wid (u + 1)) w (by omega) (by omega) wu
  generalize wid (u + 1) = m at hg l1 l20 hj hx
  clear wu
  have HJ : Hid (strOfNums (List.replicate (m - 1) 48) ++ strOfNums (fixL (u + 1) m) = ueS u) := hj
  have HX : Hid (∀ w : World, Calls Tryd.prog 31 #[.int .i64 (u + 1), .int .i64 (m : Int)] w fun e w' => e = .returned (.tuple #[.string (strOfNums (fixL (u + 1) m)), .bool true]) ∧ Below w.heap.size w w') := hx
  have HG : Hid (Calls Tryd.prog 75 #[.int .i64 k, .int .i64 n] w fun e w' => e = .returned (.tuple #[.int .i64 (u + 1), .int .i64 (m : Int)]) ∧ w' = w) := hg
  clear hg hx hj
  have m1 : (1 : Int) ≤ (m : Int) := by omega
  have m2 : (m : Int) ≤ 20 := by omega
  have m3 : ((m : Int) == 0) = false := by rw [beq_eq_false_iff_ne]; omega
  have hlim : ¬ 9223372036854775807 < (strOfNums (List.replicate (m - 1) 48)).size + (strOfNums (fixL (u + 1) m)).size := by
    rw [strOfNums_size, strOfNums_size, List.length_replicate, fixL_length]; omega
  go_enter Tryd.func59, Tryd.ntmps59
  go_wp2_with (first
    | (go_at_call 75; refine HG.out.mono ?_; rintro e w1 ⟨rfl, hw⟩; subst w1)
    | (go_at_call 31; refine (HX.out _).mono ?_; rintro e w2 ⟨rfl, hb2⟩)
    | (go_at_call 76; refine (repeat_zero _ _ (by omega) (by omega)).mono ?_; rintro e w3 ⟨rfl, hb3⟩))
  go_ret2
  refine ⟨?_, hb2.trans (hb3.mono hb2.size)⟩
  rw [← HJ.out]
  rfl
theorem implRow_no (k n : Int) (w : World) (hf : FoldsNot k n) :
    Calls Tryd.prog 59 #[.int .i64 k, .int .i64 n] w fun e w' => e = .returned (.tuple #[.string ⟨#[]⟩, .bool false]) ∧ w' = w := by
  have HF : Hid (FoldsNot k n) := hf
  clear hf
  go_enter Tryd.func59, Tryd.ntmps59
  go_wp2_with (go_at_call 75; refine (implFig_no k n w HF.out).mono ?_; rintro e w1 ⟨rfl, hw⟩; subst w1)
  go_ret2
  exact ⟨rfl, rfl⟩
end Go.Proofs.YtdokmojifkggjaaDoor

namespace Go.Proofs.YtdokmojifkggjaaDoor
open Go.RowKit
set_option linter.unusedVariables false
set_option maxRecDepth 20000

theorem folds_ue (n : Int) (h : 0 ≤ n ∧ n ≤ 1000000) : Folds 0 n n := fun w => implPlain n w h
theorem folds_ue_no (n : Int) (h : n < 0 ∨ 1000000 < n) : FoldsNot 0 n := fun w => implPlain_no n w h
theorem folds_se (n : Int) (h : -500000 ≤ n ∧ n ≤ 500000) : Folds 1 n (seF n) := fun w => implFold n w h
theorem folds_se_no (n : Int) (h : n < -500000 ∨ 500000 < n) : FoldsNot 1 n := fun w => implFold_no n w h

theorem specSe (n : Int) (w : World) (h : -500000 ≤ n ∧ n ≤ 500000) :
    Calls Tryd.prog 49 #[.int .i64 n] w fun e w' => e = .returned (.string (ueS (seF n))) ∧ Below w.heap.size w w' := by
  have HN : Hid (-500000 ≤ n ∧ n ≤ 500000) := h
  obtain ⟨b0, b1⟩ := seF_bd n h
  clear h
  go_enter Tryd.func49, Tryd.ntmps49
  go_wp2_with (first
    | (go_at_call 70; refine (specFold n _ HN.out).mono ?_; rintro e w1 ⟨rfl, hw⟩; subst w1)
    | (go_at_call 47; refine (specUe _ _ b0 b1).mono ?_; rintro e w2 ⟨rfl, hb⟩))
  go_ret
  exact ⟨rfl, hb⟩

theorem implUeRow (n : Int) (w : World) (h : 0 ≤ n ∧ n ≤ 1000000) :
    Calls Tryd.prog 30 #[.int .i64 n] w fun e w' => e = .returned (.tuple #[.string (ueS n), .bool true]) ∧ Below w.heap.size w w' := by
  have HN : Hid (0 ≤ n ∧ n ≤ 1000000) := h
  clear h
  go_enter Tryd.func30, Tryd.ntmps30
  go_wp2_with (go_at_call 59; refine (implRow _ n n _ (folds_ue n HN.out) HN.out.1 HN.out.2).mono ?_; rintro e w1 ⟨rfl, hb⟩)
  go_ret2
  exact ⟨rfl, hb⟩
theorem implUeRow_no (n : Int) (w : World) (h : n < 0 ∨ 1000000 < n) :
    Calls Tryd.prog 30 #[.int .i64 n] w fun e w' => e = .returned (.tuple #[.string ⟨#[]⟩, .bool false]) ∧ w' = w := by
  have HN : Hid (n < 0 ∨ 1000000 < n) := h
  clear h
  go_enter Tryd.func30, Tryd.ntmps30
  go_wp2_with (go_at_call 59; refine (implRow_no _ n _ (folds_ue_no n HN.out)).mono ?_; rintro e w1 ⟨rfl, hw⟩; subst w1)
  go_ret2
  exact ⟨rfl, rfl⟩
theorem implSeRow (n : Int) (w : World) (h : -500000 ≤ n ∧ n ≤ 500000) :
    Calls Tryd.prog 32 #[.int .i64 n] w fun e w' => e = .returned (.tuple #[.string (ueS (seF n)), .bool true]) ∧ Below w.heap.size w w' := by
  have HN : Hid (-500000 ≤ n ∧ n ≤ 500000) := h
  clear h
  go_enter Tryd.func32, Tryd.ntmps32
  go_wp2_with (go_at_call 59; refine (implRow _ n (seF n) _ (folds_se n HN.out) (seF_bd n HN.out).1 (seF_bd n HN.out).2).mono ?_; rintro e w1 ⟨rfl, hb⟩)
  go_ret2
  exact ⟨rfl, hb⟩
theorem implSeRow_no (n : Int) (w : World) (h : n < -500000 ∨ 500000 < n) :
    Calls Tryd.prog 32 #[.int .i64 n] w fun e w' => e = .returned (.tuple #[.string ⟨#[]⟩, .bool false]) ∧ w' = w := by
  have HN : Hid (n < -500000 ∨ 500000 < n) := h
  clear h
  go_enter Tryd.func32, Tryd.ntmps32
  go_wp2_with (go_at_call 59; refine (implRow_no _ n _ (folds_se_no n HN.out)).mono ?_; rintro e w1 ⟨rfl, hw⟩; subst w1)
  go_ret2
  exact ⟨rfl, rfl⟩
end Go.Proofs.YtdokmojifkggjaaDoor

namespace Go.Proofs.YtdokmojifkggjaaDoor
open Go.RowKit
set_option linter.unusedVariables false
set_option maxRecDepth 20000

/-- A kind opens what is counted, and refuses what is above it. -/
abbrev Opens (k : Int) (f : Int → Int) : Prop := ∀ (u : Int) (w : World), 0 ≤ u → u ≤ 1000000 → Calls Tryd.prog 78 #[.int .i64 k, .int .i64 u] w fun e w' => e = .returned (.tuple #[.int .i64 (f u), .bool true]) ∧ w' = w
abbrev OpensNot (k : Int) : Prop := ∀ (u : Int) (w : World), 1000000 < u → Calls Tryd.prog 78 #[.int .i64 k, .int .i64 u] w fun e w' => e = .returned (.tuple #[.int .i64 0, .bool false]) ∧ w' = w

theorem index_any (s : ByteArray) (w : World) :
    Calls Tryd.prog 77 #[.string s, .int .u8 49] w fun e w' => e = .returned (.int .i64 (Lib.indexByte s.data.toList 49)) ∧ w' = w := Tryd.strings_IndexByte s 49 w

set_option maxHeartbeats 1000000 in
theorem implReadAt (k : Int) (f : Int → Int) (s : ByteArray) (a z : Nat) (n : Int) (w : World) (ho : Opens k f) (hr : rowOkB s = true) (hc : Counted s a z n) :
    Calls Tryd.prog 64 #[.int .i64 k, .string s, .int .i64 a] w fun e w' => e = .returned (.tuple #[.int .i64 (f n), .int .i64 ((a : Int) + (z : Int) + ((z : Int) + 1)), .bool true]) ∧ w' = w := by
  have h4 := (rowOkB_true s hr).1
  have hrow := (rowOkB_true s hr).2
  have hlt := hc.first.lt
  have hf := hc.fits
  have hn := hc.num
  have ht := hc.top
  have hz := hc.z20
  have h1 := readN_first s (a + z) hc.first.one z (by omega) hrow
  have hp : (1 : Int) ≤ 2 ^ z := Int.pow_pos (by decide)
  have hn0 : 0 ≤ n := by omega
  have hi : Lib.indexByte (s.extract a s.size).data.toList 49 = (z : Int) := by
    have hge := Lib.indexByte_ge (s.extract a s.size).data.toList 49
    by_cases c : Lib.indexByte (s.extract a s.size).data.toList 49 = -1
    · exact absurd hc.first (index_none s a hrow c z)
    · obtain ⟨y, hy⟩ := Int.eq_ofNat_of_zero_le (show 0 ≤ Lib.indexByte (s.extract a s.size).data.toList 49 by omega)
      have := (index_first s a y hrow hy).uniq hc.first
      omega
  have hat := implAt s (a + z) (z + 1) w hr (by omega) (by omega)
  rw [hn] at hat
  have HO : Hid (Opens k f) := ho
  have HI : Hid (Lib.indexByte (s.extract a s.size).data.toList 49 = (z : Int)) := hi
  have HA : Hid (Calls Tryd.prog 65 #[.string s, .int .i64 ((a : Int) + (z : Int)), .int .i64 ((z : Int) + 1)] w fun e w' => e = .returned (.tuple #[.int .i64 (n + 1), .int .i64 ((a : Int) + (z : Int) + ((z : Int) + 1)), .bool true]) ∧ w' = w) := by
    refine hat.mono ?_
    rintro e w1 ⟨rfl, rfl⟩
    exact ⟨by simp, rfl⟩
  have c1 : (a : Int) + (z : Int) < (s.size : Int) := by omega
  have c2 : (s.size : Int) ≤ 400000 := by omega
  clear hc hn hf hlt h4 hr hrow ho hi hat h1 hp
  go_enter Tryd.func64, Tryd.ntmps64
  go_wp2_with (first
    | (go_at_call 77; refine (index_any _ _).mono ?_; rintro e w1 ⟨rfl, hw⟩; subst w1; rw [HI.out])
    | (go_at_call 65; refine HA.out.mono ?_; rintro e w1 ⟨rfl, hw⟩; subst w1)
    | (go_at_call 78; refine (HO.out _ _ (by omega) (by omega)).mono ?_; rintro e w1 ⟨rfl, hw⟩; subst w1))
  go_ret3
  exact ⟨rfl, rfl⟩

/-- No counted number stands at a. -/
abbrev CountedNot (s : ByteArray) (a : Nat) : Prop := ∀ z n, ¬ Counted s a z n
theorem counted_big (s : ByteArray) (a z : Nat) (hr : rowB s = true) (hf : First s a z) (hfit : a + z + (z + 1) ≤ s.size) (h : CountedNot s a) : 1000000 < readN s (a + z) (z + 1) - 1 ∧ (2 : Int) ^ z ≤ readN s (a + z) (z + 1) := by
  have h1 := readN_first s (a + z) hf.one z (by omega) hr
  refine ⟨?_, h1⟩
  by_cases c : readN s (a + z) (z + 1) - 1 ≤ 1000000
  · exfalso
    have hz : z ≤ 20 := by
      by_cases d : z ≤ 20
      · exact d
      · have := pow_le (a := 21) (b := z) (by omega)
        have e : (2 : Int) ^ 21 = 2097152 := by decide
        omega
    exact h z (readN s (a + z) (z + 1) - 1) ⟨hf, hz, hfit, by omega, c⟩
  · omega

set_option maxHeartbeats 1000000 in
theorem implReadAtNo (k : Int) (s : ByteArray) (a : Nat) (w : World) (ho : OpensNot k) (hr : rowOkB s = true) (ha : (a : Int) ≤ (s.size : Int)) (h : CountedNot s a) :
    Calls Tryd.prog 64 #[.int .i64 k, .string s, .int .i64 a] w fun e w' => e = .returned (.tuple #[.int .i64 0, .int .i64 0, .bool false]) ∧ w' = w := by
  have h4 := (rowOkB_true s hr).1
  have hrow := (rowOkB_true s hr).2
  have c2 : (s.size : Int) ≤ 400000 := by omega
  have hge := Lib.indexByte_ge (s.extract a s.size).data.toList 49
  by_cases c : Lib.indexByte (s.extract a s.size).data.toList 49 = -1
  · have HI : Hid (Lib.indexByte (s.extract a s.size).data.toList 49 = -1) := c
    clear c hge h4 hrow ho h hr
    go_enter Tryd.func64, Tryd.ntmps64
    go_wp2_with (go_at_call 77; refine (index_any _ _).mono ?_; rintro e w1 ⟨rfl, hw⟩; subst w1; rw [HI.out])
    go_ret3
    exact ⟨rfl, rfl⟩
  · obtain ⟨z, hz⟩ := Int.eq_ofNat_of_zero_le (show 0 ≤ Lib.indexByte (s.extract a s.size).data.toList 49 by omega)
    have hf := index_first s a z hrow hz
    have hlt := hf.lt
    have c1 : (a : Int) + (z : Int) < (s.size : Int) := by omega
    have HI : Hid (Lib.indexByte (s.extract a s.size).data.toList 49 = (z : Int)) := hz
    by_cases d : 30 < (z : Int) + 1 ∨ (s.size : Int) - ((a : Int) + (z : Int)) < (z : Int) + 1
    · have HA : Hid (Calls Tryd.prog 65 #[.string s, .int .i64 ((a : Int) + (z : Int)), .int .i64 ((z : Int) + 1)] w fun e w' => e = .returned (.tuple #[.int .i64 0, .int .i64 0, .bool false]) ∧ w' = w) := implAtNo s ((a : Int) + (z : Int)) ((z : Int) + 1) w c2 (by omega) (by omega) (.inr d)
      clear c hge h4 hrow ho h hr hz d hf hlt
      go_enter Tryd.func64, Tryd.ntmps64
      go_wp2_with (first
        | (go_at_call 77; refine (index_any _ _).mono ?_; rintro e w1 ⟨rfl, hw⟩; subst w1; rw [HI.out])
        | (go_at_call 65; refine HA.out.mono ?_; rintro e w1 ⟨rfl, hw⟩; subst w1))
      go_ret3
      exact ⟨rfl, rfl⟩
    · have hb := (counted_big s a z hrow hf (by omega) h).1
      have hbd := readN_bd s (a + z) (z + 1) hrow (by omega) (by omega)
      have hat := implAt s (a + z) (z + 1) w hr (by omega) (by omega)
      generalize readN s (a + z) (z + 1) = m at hb hbd hat
      have HO : Hid (OpensNot k) := ho
      have HA : Hid (Calls Tryd.prog 65 #[.string s, .int .i64 ((a : Int) + (z : Int)), .int .i64 ((z : Int) + 1)] w fun e w' => e = .returned (.tuple #[.int .i64 m, .int .i64 ((a : Int) + (z : Int) + ((z : Int) + 1)), .bool true]) ∧ w' = w) := by
        refine hat.mono ?_
        rintro e w1 ⟨rfl, rfl⟩
        exact ⟨by simp, rfl⟩
      obtain ⟨m0, m1⟩ := hbd
      clear c hge h4 hrow ho h hr hz d hf hlt hat
      go_enter Tryd.func64, Tryd.ntmps64
      go_wp2_with (first
        | (go_at_call 77; refine (index_any _ _).mono ?_; rintro e w1 ⟨rfl, hw⟩; subst w1; rw [HI.out])
        | (go_at_call 65; refine HA.out.mono ?_; rintro e w1 ⟨rfl, hw⟩; subst w1)
        | (go_at_call 78; refine (HO.out _ _ (by omega)).mono ?_; rintro e w1 ⟨rfl, hw⟩; subst w1))
      go_ret3
      exact ⟨rfl, rfl⟩

/-- No counted number stands at a, or it is no row. -/
abbrev CountNo (s : ByteArray) (a : Int) : Prop := rowOkB s = true → ∀ b : Nat, a = (b : Int) → CountedNot s b

end Go.Proofs.YtdokmojifkggjaaDoor

namespace Go.Proofs.YtdokmojifkggjaaDoor
open Go.RowKit
set_option linter.unusedVariables false
set_option maxRecDepth 20000

set_option maxHeartbeats 1000000 in
theorem specReadAt (s : ByteArray) (a z : Nat) (n : Int) (w : World) (hr : rowOkB s = true) (hc : Counted s a z n) :
    Calls Tryd.prog 52 #[.string s, .int .i64 a] w fun e w' => e = .returned (.tuple #[.int .i64 n, .int .i64 ((a : Int) + (z : Int) + ((z : Int) + 1)), .bool true]) ∧ w' = w := by
  have h4 := (rowOkB_true s hr).1
  have hrow := (rowOkB_true s hr).2
  have hlt := hc.first.lt
  have hf := hc.fits
  have hn := hc.num
  have ht := hc.top
  have hz := hc.z20
  have h1 := readN_first s (a + z) hc.first.one z (by omega) hrow
  have hp : (1 : Int) ≤ 2 ^ z := Int.pow_pos (by decide)
  have hpb := pow_bd z (by omega)
  have hrd := specRead s (a + z) (z + 1) w hr (by omega) (by omega)
  rw [hn] at hrd h1
  have HA : Hid (Calls Tryd.prog 53 #[.string s, .int .i64 ((a : Int) + (z : Int)), .int .i64 ((z : Int) + 1)] w fun e w' => e = .returned (.tuple #[.int .i64 (n + 1), .int .i64 ((a : Int) + (z : Int) + ((z : Int) + 1)), .bool true]) ∧ w' = w) := by
    refine hrd.mono ?_
    rintro e w1 ⟨rfl, rfl⟩
    exact ⟨by simp, rfl⟩
  have HZ : Hid (∀ j, j < z → bAt s (a + j) = 48) := hc.first.zero
  have HO : Hid (bAt s (a + z) = 49) := hc.first.one
  have c1 : (a : Int) + (z : Int) < (s.size : Int) := by omega
  have c2 : (s.size : Int) ≤ 400000 := by omega
  have c3 : (z : Int) ≤ 20 := by omega
  obtain ⟨p, hpp⟩ : ∃ p : Int, (2 : Int) ^ z = p := ⟨_, rfl⟩
  rw [hpp] at h1 hp hpb
  obtain ⟨_, hpb2⟩ := hpb
  clear hc hn hf hlt h4 hr hrow hrd hz
  go_enter Tryd.func52, Tryd.ntmps52
  go_wp2
  go_loopw [7] (fun i wr => ∃ j : Nat, j ≤ z ∧ i = .int .i64 (j : Int) ∧ wr = w)
    (fun i _ => z - (intOf i).toNat)
  case atStart => exact ⟨0, Nat.zero_le _, rfl, rfl⟩
  case round =>
    obtain ⟨j, hj, rfl, rfl⟩ := hrel
    have hjs : a + j < s.size := by omega
    have HX : Hid ((s[a + j].toNat : Int) = bAt s (a + j)) := bAt_eq s (a + j) hjs
    by_cases hlt : j < z
    · have hq : (j : Int) < (z : Int) := by omega
      have hq1 : ((s[a + j].toNat : Int) == 48) = true := by rw [HX.out, HZ.out j hlt]; rfl
      go_wp2
      go_roundw
      case rel => exact ⟨j + 1, by omega, by go_num, trivial⟩
      case measure => simp [intOf]; omega
    · obtain rfl : j = z := by omega
      have hq1 : ((s[a + j].toNat : Int) == 48) = false := by rw [HX.out, HO.out]; rfl
      go_wp2_with (go_at_call 53; refine HA.out.mono ?_; rintro e w1 ⟨rfl, hw⟩; subst w1)
      go_ret3
      exact ⟨rfl, rfl⟩

/-- What spec.l02Read answers behind the loop where no counted number stands: it refuses, or the number is too small or too great. -/
theorem specReadStop (s : ByteArray) (a j : Nat) (w : World) (hr : rowOkB s = true) (hj : j ≤ 21) (ha : (a : Int) + (j : Int) ≤ (s.size : Int)) (h : CountedNot s a) (hz : ∀ i, i < j → bAt s (a + i) = 48)
    (hs : a + j = s.size ∨ (a + j < s.size ∧ bAt s (a + j) = 49) ∨ (a + j < s.size ∧ bAt s (a + j) = 48)) :
    (Calls Tryd.prog 53 #[.string s, .int .i64 ((a : Int) + (j : Int)), .int .i64 ((j : Int) + 1)] w fun e w' => e = .returned (.tuple #[.int .i64 0, .int .i64 0, .bool false]) ∧ w' = w) ∨
    ∃ m : Int, 0 ≤ m ∧ m < 1073741824 ∧ (m < 2 ^ j ∨ (2 ^ j ≤ m ∧ 1000000 < m - 1)) ∧ (Calls Tryd.prog 53 #[.string s, .int .i64 ((a : Int) + (j : Int)), .int .i64 ((j : Int) + 1)] w fun e w' => e = .returned (.tuple #[.int .i64 m, .int .i64 ((a : Int) + (j : Int) + ((j : Int) + 1)), .bool true]) ∧ w' = w) := by
  have h4 := (rowOkB_true s hr).1
  have hrow := (rowOkB_true s hr).2
  by_cases hfit : a + j + (j + 1) ≤ s.size
  · refine .inr ⟨readN s (a + j) (j + 1), (readN_bd s (a + j) (j + 1) hrow (by omega) (by omega)).1, (readN_bd s (a + j) (j + 1) hrow (by omega) (by omega)).2, ?_, ?_⟩
    · rcases hs with hs | ⟨hs, h49⟩ | ⟨hs, h48⟩
      · omega
      · have := counted_big s a j hrow ⟨hs, h49, hz⟩ hfit h
        exact .inr ⟨this.2, this.1⟩
      · exact .inl (readN_zero s (a + j) h48 j (by omega) hrow)
    · refine (specRead s (a + j) (j + 1) w hr (by omega) (by omega)).mono ?_
      rintro e w1 ⟨rfl, rfl⟩
      exact ⟨by simp, rfl⟩
  · exact .inl (specRead_no s (a + j) (j + 1) w (by omega) (by omega) (by omega) (by omega))

set_option maxHeartbeats 1000000 in
theorem specReadAtNo (s : ByteArray) (a : Nat) (w : World) (hr : rowOkB s = true) (ha : (a : Int) ≤ (s.size : Int)) (h : CountedNot s a) :
    Calls Tryd.prog 52 #[.string s, .int .i64 a] w fun e w' => e = .returned (.tuple #[.int .i64 0, .int .i64 0, .bool false]) ∧ w' = w := by
  have HS : Hid (∀ (j : Nat), j ≤ 21 → (a : Int) + (j : Int) ≤ (s.size : Int) → (∀ i, i < j → bAt s (a + i) = 48) →
      (a + j = s.size ∨ (a + j < s.size ∧ bAt s (a + j) = 49) ∨ (a + j < s.size ∧ bAt s (a + j) = 48)) →
    (Calls Tryd.prog 53 #[.string s, .int .i64 ((a : Int) + (j : Int)), .int .i64 ((j : Int) + 1)] w fun e w' => e = .returned (.tuple #[.int .i64 0, .int .i64 0, .bool false]) ∧ w' = w) ∨
    ∃ m : Int, 0 ≤ m ∧ m < 1073741824 ∧ (m < 2 ^ j ∨ (2 ^ j ≤ m ∧ 1000000 < m - 1)) ∧ (Calls Tryd.prog 53 #[.string s, .int .i64 ((a : Int) + (j : Int)), .int .i64 ((j : Int) + 1)] w fun e w' => e = .returned (.tuple #[.int .i64 m, .int .i64 ((a : Int) + (j : Int) + ((j : Int) + 1)), .bool true]) ∧ w' = w)) :=
    fun j hj ha hz hs => specReadStop s a j w hr hj ha h hz hs
  have h4 := (rowOkB_true s hr).1
  have HR : Hid (rowB s = true) := (rowOkB_true s hr).2
  have c2 : (s.size : Int) ≤ 400000 := by omega
  clear hr h4 h
  go_enter Tryd.func52, Tryd.ntmps52
  go_wp2
  go_loopw [7] (fun i wr => ∃ j : Nat, j ≤ 21 ∧ (a : Int) + (j : Int) ≤ (s.size : Int) ∧ i = .int .i64 (j : Int) ∧ Hid (∀ i, i < j → bAt s (a + i) = 48) ∧ wr = w)
    (fun i _ => 21 - (intOf i).toNat)
  case atStart => exact ⟨0, Nat.zero_le _, by omega, rfl, (fun i hi => by omega : ∀ i, i < 0 → bAt s (a + i) = 48), rfl⟩
  case round =>
    obtain ⟨j, hj, haj, rfl, HZ, rfl⟩ := hrel
    have hj' : (j : Int) ≤ 21 := by omega
    obtain ⟨p, hpp⟩ : ∃ p : Int, (2 : Int) ^ j = p := ⟨_, rfl⟩
    have hpb := pow_bd j (by omega)
    rw [hpp] at hpb
    obtain ⟨hp1, hp2⟩ := hpb
    by_cases e1 : a + j = s.size
    · have e1' : (s.size : Int) ≤ (a : Int) + (j : Int) := by omega
      have hst := HS.out j hj haj HZ.out (.inl e1)
      rw [hpp] at hst
      rcases hst with hst | ⟨m, m0, m1, hm, hst⟩
      · have HA : Hid (Calls Tryd.prog 53 #[.string s, .int .i64 ((a : Int) + (j : Int)), .int .i64 ((j : Int) + 1)] wr fun e w' => e = .returned (.tuple #[.int .i64 0, .int .i64 0, .bool false]) ∧ w' = wr) := hst
        clear hst e1
        go_wp2_with (go_at_call 53; refine HA.out.mono ?_; rintro e w1 ⟨rfl, hw⟩; subst w1)
        go_ret3
        exact ⟨rfl, rfl⟩
      · have HA : Hid (Calls Tryd.prog 53 #[.string s, .int .i64 ((a : Int) + (j : Int)), .int .i64 ((j : Int) + 1)] wr fun e w' => e = .returned (.tuple #[.int .i64 m, .int .i64 ((a : Int) + (j : Int) + ((j : Int) + 1)), .bool true]) ∧ w' = wr) := hst
        clear hst e1
        rcases hm with hm | ⟨hm, hm'⟩
        all_goals
          go_wp2_with (go_at_call 53; refine HA.out.mono ?_; rintro e w1 ⟨rfl, hw⟩; subst w1)
          go_ret3
          exact ⟨rfl, rfl⟩
    · have hjs : a + j < s.size := by omega
      have haj' : (a : Int) + (j : Int) < (s.size : Int) := by omega
      have HX : Hid ((s[a + j].toNat : Int) = bAt s (a + j)) := bAt_eq s (a + j) hjs
      have hb := rowB_bit s HR.out (a + j) hjs
      unfold bitAt at hb
      by_cases e2 : j < 21 ∧ bAt s (a + j) = 48
      · have HB : Hid (bAt s (a + j) = 48) := e2.2
        have hq : (j : Int) < 21 := by omega
        have hq1 : ((s[a + j].toNat : Int) == 48) = true := by rw [HX.out, HB.out]; rfl
        clear e2 hb e1
        go_wp2
        go_roundw
        case rel => exact ⟨j + 1, by omega, by omega, by go_num, (fun i hi => by rcases Nat.lt_succ_iff_lt_or_eq.1 hi with h | rfl; exact HZ.out i h; exact HB.out : ∀ i, i < j + 1 → bAt s (a + i) = 48), trivial⟩
        case measure => simp [intOf]; omega
      · have hst := HS.out j hj haj HZ.out (by rcases hb with hb | hb; exact .inr (.inr ⟨hjs, hb⟩); exact .inr (.inl ⟨hjs, hb⟩))
        rw [hpp] at hst
        have hq : 21 ≤ (j : Int) ∨ ((s[a + j].toNat : Int) == 48) = false := by
          rcases hb with hb | hb
          · left; omega
          · right; rw [HX.out, hb]; rfl
        clear e2 hb e1
        rcases hst with hst | ⟨m, m0, m1, hm, hst⟩
        · have HA : Hid (Calls Tryd.prog 53 #[.string s, .int .i64 ((a : Int) + (j : Int)), .int .i64 ((j : Int) + 1)] wr fun e w' => e = .returned (.tuple #[.int .i64 0, .int .i64 0, .bool false]) ∧ w' = wr) := hst
          clear hst
          cases hv : ((s[a + j].toNat : Int) == 48) with
          | false =>
            clear hq
            go_wp2_with (go_at_call 53; refine HA.out.mono ?_; rintro e w1 ⟨rfl, hw⟩; subst w1)
            go_ret3
            exact ⟨rfl, rfl⟩
          | true =>
            have hq' : 21 ≤ (j : Int) := by rcases hq with hq | hq; exact hq; rw [hv] at hq; cases hq
            clear hq
            go_wp2_with (go_at_call 53; refine HA.out.mono ?_; rintro e w1 ⟨rfl, hw⟩; subst w1)
            go_ret3
            exact ⟨rfl, rfl⟩
        · have HA : Hid (Calls Tryd.prog 53 #[.string s, .int .i64 ((a : Int) + (j : Int)), .int .i64 ((j : Int) + 1)] wr fun e w' => e = .returned (.tuple #[.int .i64 m, .int .i64 ((a : Int) + (j : Int) + ((j : Int) + 1)), .bool true]) ∧ w' = wr) := hst
          clear hst
          cases hv : ((s[a + j].toNat : Int) == 48) with
          | false =>
            clear hq
            rcases hm with hm | ⟨hm, hm'⟩
            all_goals
              go_wp2_with (go_at_call 53; refine HA.out.mono ?_; rintro e w1 ⟨rfl, hw⟩; subst w1)
              go_ret3
              exact ⟨rfl, rfl⟩
          | true =>
            have hq' : 21 ≤ (j : Int) := by rcases hq with hq | hq; exact hq; rw [hv] at hq; cases hq
            clear hq
            rcases hm with hm | ⟨hm, hm'⟩
            all_goals
              go_wp2_with (go_at_call 53; refine HA.out.mono ?_; rintro e w1 ⟨rfl, hw⟩; subst w1)
              go_ret3
              exact ⟨rfl, rfl⟩
end Go.Proofs.YtdokmojifkggjaaDoor

namespace Go.Proofs.YtdokmojifkggjaaDoor
open Go.RowKit
set_option linter.unusedVariables false
set_option maxRecDepth 20000

theorem opens_ue : Opens 0 (fun u => u) := fun u w h0 h1 => implSame u w ⟨h0, h1⟩
theorem opens_ue_no : OpensNot 0 := fun u w h => implSame_no u w (.inr h)
theorem opens_se : Opens 1 seO := fun u w h0 h1 => implOpen u w ⟨h0, h1⟩
theorem opens_se_no : OpensNot 1 := fun u w h => implOpen_no u w (.inr h)
theorem Counted.low {s : ByteArray} {a z : Nat} {n : Int} (hc : Counted s a z n) (hr : rowOkB s = true) : 0 ≤ n := by
  have hrow := (rowOkB_true s hr).2
  have h1 := readN_first s (a + z) hc.first.one z (by have := hc.fits; omega) hrow
  have hp : (1 : Int) ≤ 2 ^ z := Int.pow_pos (by decide)
  have := hc.num
  omega

set_option maxHeartbeats 1000000 in
theorem specSeAt (s : ByteArray) (a z : Nat) (n : Int) (w : World) (hr : rowOkB s = true) (hc : Counted s a z n) :
    Calls Tryd.prog 54 #[.string s, .int .i64 a] w fun e w' => e = .returned (.tuple #[.int .i64 (seO n), .int .i64 ((a : Int) + (z : Int) + ((z : Int) + 1)), .bool true]) ∧ w' = w := by
  have HA : Hid (Calls Tryd.prog 52 #[.string s, .int .i64 a] w fun e w' => e = .returned (.tuple #[.int .i64 n, .int .i64 ((a : Int) + (z : Int) + ((z : Int) + 1)), .bool true]) ∧ w' = w) := specReadAt s a z n w hr hc
  have HB : Hid (0 ≤ n ∧ n ≤ 1000000) := ⟨hc.low hr, hc.top⟩
  clear hr hc
  go_enter Tryd.func54, Tryd.ntmps54
  go_wp2_with (first
    | (go_at_call 52; refine HA.out.mono ?_; rintro e w1 ⟨rfl, hw⟩; subst w1)
    | (go_at_call 73; refine (specOpen n _ HB.out).mono ?_; rintro e w1 ⟨rfl, hw⟩; subst w1))
  go_ret3
  exact ⟨rfl, rfl⟩
set_option maxHeartbeats 1000000 in
theorem specSeAtNo (s : ByteArray) (a : Nat) (w : World) (hr : rowOkB s = true) (ha : (a : Int) ≤ (s.size : Int)) (h : CountedNot s a) :
    Calls Tryd.prog 54 #[.string s, .int .i64 a] w fun e w' => e = .returned (.tuple #[.int .i64 0, .int .i64 0, .bool false]) ∧ w' = w := by
  have HA : Hid (Calls Tryd.prog 52 #[.string s, .int .i64 a] w fun e w' => e = .returned (.tuple #[.int .i64 0, .int .i64 0, .bool false]) ∧ w' = w) := specReadAtNo s a w hr ha h
  clear hr ha h
  go_enter Tryd.func54, Tryd.ntmps54
  go_wp2_with (go_at_call 52; refine HA.out.mono ?_; rintro e w1 ⟨rfl, hw⟩; subst w1)
  go_ret3
  exact ⟨rfl, rfl⟩

end Go.Proofs.YtdokmojifkggjaaDoor
