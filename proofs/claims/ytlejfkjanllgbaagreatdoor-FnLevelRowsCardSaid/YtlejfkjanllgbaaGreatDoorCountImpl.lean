/-
  The walks of impl's countKind.figures, size and row: the row of a counted number, whatever its kind.
-/
import Derived.Test.YtlejfkjanllgbaaGreatDoorShelf
import Derived.Test.YtlejfkjanllgbaaGreatDoorCountMath
import Derived.Test.YtlejfkjanllgbaaGreatDoorFixImpl
import Derived.Test.YtlejfkjanllgbaaGreatDoorFoldWalks
namespace Go.Proofs.YtlejfkjanllgbaaGreatDoor
open Go.RowKit
set_option linter.unusedVariables false
set_option maxRecDepth 20000

/-- A kind folds n to u. -/
abbrev Folds (k n u : Int) : Prop := ∀ w : World, Calls Tryz.prog 110 #[.int .i64 k, .int .i64 n] w fun e w' => e = .returned (.tuple #[.int .i64 u, .bool true]) ∧ w' = w
/-- A kind has no row for n. -/
abbrev FoldsNot (k n : Int) : Prop := ∀ w : World, Calls Tryz.prog 110 #[.int .i64 k, .int .i64 n] w fun e w' => e = .returned (.tuple #[.int .i64 0, .bool false]) ∧ w' = w

theorem len_any (u : Int) (w : World) (h0 : 0 ≤ u) (h1 : u ≤ 1000001) :
    Calls Tryz.prog 111 #[.int .u64 u] w fun e w' => e = .returned (.int .i64 (wid u)) ∧ w' = w := Tryz.bits_Len u w h0 (by omega)
theorem repeat_zero (k : Int) (w : World) (h0 : 0 ≤ k) (h1 : k ≤ 100) :
    Calls Tryz.prog 97 #[.string ⟨#[48]⟩, .int .i64 k] w fun e w' => e = .returned (.string (strOfNums (List.replicate k.toNat 48))) ∧ Below w.heap.size w w' := by
  obtain ⟨n, rfl⟩ := Int.eq_ofNat_of_zero_le h0
  have e : ∀ n : Nat, (⟨(Lib.repeatL (⟨#[48]⟩ : ByteArray).data.toList n).toArray⟩ : ByteArray) = strOfNums (List.replicate n 48) := by
    intro n
    apply ByteArray.ext
    apply Array.ext'
    rw [strOfNums_data]
    show Lib.repeatL [48] n = _
    rw [List.map_replicate]
    induction n with
    | zero => rfl
    | succ n ih => rw [Lib.repeatL, ih, List.replicate_succ]; rfl
  have h := Tryz.strings_Repeat ⟨#[48]⟩ n w (by omega) (by show 1 * n ≤ _; omega)
  rw [e n] at h
  exact h

set_option maxHeartbeats 1000000 in
theorem implFig (k n u : Int) (w : World) (hf : Folds k n u) (h0 : 0 ≤ u) (h1 : u ≤ 1000000) :
    Calls Tryz.prog 95 #[.int .i64 k, .int .i64 n] w fun e w' => e = .returned (.tuple #[.int .i64 (u + 1), .int .i64 (wid (u + 1))]) ∧ w' = w := by
  have HF : Hid (Folds k n u) := hf
  clear hf
  go_enter Tryz.func95, Tryz.ntmps95
  go_wp2_with (first
    | (go_at_call 110; refine (HF.out _).mono ?_; rintro e w1 ⟨rfl, hw⟩; subst w1)
    | (go_at_call 111; refine (len_any _ _ (by omega) (by omega)).mono ?_; rintro e w1 ⟨rfl, hw⟩; subst w1))
  go_ret2
  exact ⟨rfl, rfl⟩
theorem implFig_no (k n : Int) (w : World) (hf : FoldsNot k n) :
    Calls Tryz.prog 95 #[.int .i64 k, .int .i64 n] w fun e w' => e = .returned (.tuple #[.int .i64 0, .int .i64 0]) ∧ w' = w := by
  have HF : Hid (FoldsNot k n) := hf
  clear hf
  go_enter Tryz.func95, Tryz.ntmps95
  go_wp2_with (go_at_call 110; refine (HF.out _).mono ?_; rintro e w1 ⟨rfl, hw⟩; subst w1)
  go_ret2
  exact ⟨rfl, rfl⟩

set_option maxHeartbeats 1000000 in
theorem implRow (k n u : Int) (w : World) (hf : Folds k n u) (h0 : 0 ≤ u) (h1 : u ≤ 1000000) :
    Calls Tryz.prog 67 #[.int .i64 k, .int .i64 n] w fun e w' => e = .returned (.tuple #[.string (ueS u), .bool true]) ∧ Below w.heap.size w w' := by
  have HF : Hid (Folds k n u) := hf
  clear hf
  obtain ⟨l1, l20, _, wu⟩ := wid_pow (u + 1) (by omega) (by omega)
  have hj := ueS_join u
  have hg := implFig k n u w HF.out h0 h1
  have hx := fun w => implFix (u + 1) (wid (u + 1)) w (by omega) (by omega) wu
  generalize wid (u + 1) = m at hg l1 l20 hj hx
  clear wu
  have HJ : Hid (strOfNums (List.replicate (m - 1) 48) ++ strOfNums (fixL (u + 1) m) = ueS u) := hj
  have HX : Hid (∀ w : World, Calls Tryz.prog 96 #[.int .i64 (u + 1), .int .i64 (m : Int)] w fun e w' => e = .returned (.tuple #[.string (strOfNums (fixL (u + 1) m)), .bool true]) ∧ Below w.heap.size w w') := hx
  have HG : Hid (Calls Tryz.prog 95 #[.int .i64 k, .int .i64 n] w fun e w' => e = .returned (.tuple #[.int .i64 (u + 1), .int .i64 (m : Int)]) ∧ w' = w) := hg
  clear hg hx hj
  have m1 : (1 : Int) ≤ (m : Int) := by omega
  have m2 : (m : Int) ≤ 20 := by omega
  have m3 : ((m : Int) == 0) = false := by rw [beq_eq_false_iff_ne]; omega
  have hlim : ¬ 9223372036854775807 < (strOfNums (List.replicate (m - 1) 48)).size + (strOfNums (fixL (u + 1) m)).size := by
    rw [strOfNums_size, strOfNums_size, List.length_replicate, fixL_length]; omega
  go_enter Tryz.func67, Tryz.ntmps67
  go_wp2_with (first
    | (go_at_call 95; refine HG.out.mono ?_; rintro e w1 ⟨rfl, hw⟩; subst w1)
    | (go_at_call 96; refine (HX.out _).mono ?_; rintro e w2 ⟨rfl, hb2⟩)
    | (go_at_call 97; refine (repeat_zero _ _ (by omega) (by omega)).mono ?_; rintro e w3 ⟨rfl, hb3⟩))
  go_ret2
  refine ⟨?_, hb2.trans (hb3.mono hb2.size)⟩
  rw [← HJ.out]
  rfl
theorem implRow_no (k n : Int) (w : World) (hf : FoldsNot k n) :
    Calls Tryz.prog 67 #[.int .i64 k, .int .i64 n] w fun e w' => e = .returned (.tuple #[.string ⟨#[]⟩, .bool false]) ∧ w' = w := by
  have HF : Hid (FoldsNot k n) := hf
  clear hf
  go_enter Tryz.func67, Tryz.ntmps67
  go_wp2_with (go_at_call 95; refine (implFig_no k n w HF.out).mono ?_; rintro e w1 ⟨rfl, hw⟩; subst w1)
  go_ret2
  exact ⟨rfl, rfl⟩
end Go.Proofs.YtlejfkjanllgbaaGreatDoor
