/-
  The walks of ReadUe and ReadSe, of impl and of spec.
-/
import Derived.Test.YtlejfkjanllgbaaDoorCountBack
import Derived.Test.YtlejfkjanllgbaaDoorFoldSpec
namespace Go.Proofs.YtlejfkjanllgbaaDoor
open Go.RowKit
set_option linter.unusedVariables false
set_option maxRecDepth 20000

theorem opens_ue : Opens 0 (fun u => u) := fun u w h0 h1 => implSame u w ⟨h0, h1⟩
theorem opens_ue_no : OpensNot 0 := fun u w h => implSame_no u w (.inr h)
theorem opens_se : Opens 1 seO := fun u w h0 h1 => implOpen u w ⟨h0, h1⟩
theorem opens_se_no : OpensNot 1 := fun u w h => implOpen_no u w (.inr h)
theorem Counted.low {s : ByteArray} {a z : Nat} {n : Int} (hc : Counted s a z n) (hr : rowOkB s = true) : 0 ≤ n := by
  have hrow := (rowOkB_true s hr).2
  have h1 := readN_first s (a + z) hc.first.one z (by have := hc.fits; omega) hrow
  have hp : (1 : Int) ≤ 2 ^ z := Int.pow_pos (by decide)
  have := hc.num
  omega

set_option maxHeartbeats 1000000 in
theorem specSeAt (s : ByteArray) (a z : Nat) (n : Int) (w : World) (hr : rowOkB s = true) (hc : Counted s a z n) :
    Calls Tryd.prog 95 #[.string s, .int .i64 a] w fun e w' => e = .returned (.tuple #[.int .i64 (seO n), .int .i64 ((a : Int) + (z : Int) + ((z : Int) + 1)), .bool true]) ∧ w' = w := by
  have HA : Hid (Calls Tryd.prog 94 #[.string s, .int .i64 a] w fun e w' => e = .returned (.tuple #[.int .i64 n, .int .i64 ((a : Int) + (z : Int) + ((z : Int) + 1)), .bool true]) ∧ w' = w) := specReadAt s a z n w hr hc
  have HB : Hid (0 ≤ n ∧ n ≤ 1000000) := ⟨hc.low hr, hc.top⟩
  clear hr hc
  go_enter Tryd.func95, Tryd.ntmps95
  go_wp2_with (first
    | (go_at_call 94; refine HA.out.mono ?_; rintro e w1 ⟨rfl, hw⟩; subst w1)
    | (go_at_call 117; refine (specOpen n _ HB.out).mono ?_; rintro e w1 ⟨rfl, hw⟩; subst w1))
  go_ret3
  exact ⟨rfl, rfl⟩
set_option maxHeartbeats 1000000 in
theorem specSeAtNo (s : ByteArray) (a : Nat) (w : World) (hr : rowOkB s = true) (ha : (a : Int) ≤ (s.size : Int)) (h : CountedNot s a) :
    Calls Tryd.prog 95 #[.string s, .int .i64 a] w fun e w' => e = .returned (.tuple #[.int .i64 0, .int .i64 0, .bool false]) ∧ w' = w := by
  have HA : Hid (Calls Tryd.prog 94 #[.string s, .int .i64 a] w fun e w' => e = .returned (.tuple #[.int .i64 0, .int .i64 0, .bool false]) ∧ w' = w) := specReadAtNo s a w hr ha h
  clear hr ha h
  go_enter Tryd.func95, Tryd.ntmps95
  go_wp2_with (go_at_call 94; refine HA.out.mono ?_; rintro e w1 ⟨rfl, hw⟩; subst w1)
  go_ret3
  exact ⟨rfl, rfl⟩

end Go.Proofs.YtlejfkjanllgbaaDoor
