/-
  The walk of impl.RowBytes: a row in bytes.
-/
import Derived.Test.YtdokmojifkggjaaDoorPackKit
import Derived.Test.YtdokmojifkggjaaDoorMSetMath
import Derived.Test.YtdokmojifkggjaaDoorMInKit
namespace Go.Proofs.YtdokmojifkggjaaDoor
open Go.RowKit
set_option linter.unusedVariables false
set_option maxRecDepth 20000

theorem put_row (s : ByteArray) (g k : Nat) (y : Int) (w : World) (hr : rowB s = true) (hk : (k : Int) ≤ 400000) (h : Packed w g (oct (cutB (bitF s) k)) k) (hy : y = bitF s k) :
    Calls Tryd.prog 60 #[.pointer (some ⟨g, 0, none⟩), .int .u8 y] w fun e w' => e = .returned (.tuple #[]) ∧ Packed w' g (oct (cutB (bitF s) (k + 1))) (k + 1) ∧ w.grownBy w' (some g) := by
  have hb := bitF_bits s hr
  have e : k = 8 * (k / 8) + k % 8 := by omega
  have hbd := oct_bd (cutB_bits hb k) (k / 8)
  have hlow := oct_cut_low (bitF s) (k / 8) (k % 8) (by omega)
  have hst := oct_cut_step (bitF s) (k / 8) (k % 8) (by omega)
  rw [← e] at hlow hst
  exact put_any g k _ y w h hk (by rw [hy]; exact hb k) hbd.1 hbd.2 hlow _ (by rw [hst, hy]) (fun i hi => oct_cut_same (bitF s) k i hi)

set_option maxHeartbeats 1600000 in
theorem implBytes (s : ByteArray) (w : World) (hr : rowOkB s = true) :
    Calls Tryd.prog 34 #[.string s] w fun e w' => e = .returned (.tuple #[.string (strOfNums (byL s)), .bool true]) ∧ Below w.heap.size w w' := by
  obtain ⟨h4, hrow⟩ := rowOkB_true s hr
  have h4' : (s.size : Int) ≤ 400000 := by omega
  have HR : Hid (rowB s = true) := hrow
  clear hrow
  have hm : s.size ≤ maxLen := by unfold maxLen; omega
  obtain ⟨l, hl, hz⟩ := zero_run
  have HL : Hid (l = List.replicate 50001 (.int .u8 0) ++ [.int .i64 0]) := hl
  clear hl
  go_enter Tryd.func34, Tryd.ntmps34
  go_wp2_with (go_at_call 36; refine (implRowOk s w hm).mono ?_; rintro e w1 ⟨rfl, hw⟩; subst w1)
  have P0 : Packed (w.alloc (.cells l.toArray 88)) w.heap.size (oct (cutB (bitF s) 0)) 0 := by
    rw [show oct (cutB (bitF s) 0) = fun _ => 0 from funext (oct_cut_zero (bitF s))]
    exact packed_new w l HL.out
  have B0 : Below w.heap.size w (w.alloc (.cells l.toArray 88)) := (Below.refl _ _).alloc (Nat.le_refl _) _
  clear hz
  go_loopw [11] (fun i wr => ∃ k : Nat, k ≤ s.size ∧ i = .int .i64 (k : Int) ∧ Hid (Packed wr w.heap.size (oct (cutB (bitF s) k)) k) ∧ Below w.heap.size w wr)
    (fun i _ => s.size - (intOf i).toNat)
  case atStart => exact ⟨0, Nat.zero_le _, rfl, P0, B0⟩
  case round =>
    obtain ⟨k, hk, rfl, HP, hb⟩ := hrel
    clear P0 B0
    by_cases hlt : k < s.size
    · have HX : Hid ((s[k].toNat : Int) - 48 = bitF s k) := by
        show _ = _
        rw [bitF_in s k hlt, bAt_eq s k hlt]
      have hbit : 48 ≤ (s[k].toNat : Int) ∧ (s[k].toNat : Int) ≤ 49 := by
        have := rowB_bit s HR.out k hlt; unfold bitAt at this; rw [← bAt_eq s k hlt] at this; omega
      have hq : (k : Int) < (s.size : Int) := by omega
      go_wp2_with (go_at_call 60; refine (put_row s w.heap.size k _ wr HR.out (by omega) HP.out HX.out).mono ?_; rintro e w1 ⟨rfl, hp1, hg1⟩)
      have hb1 := hb.grown hg1 hb.size (fun j hj => by cases hj; exact Nat.le_refl _)
      go_roundw
      case rel => exact ⟨k + 1, by omega, by go_num, hp1, hb1⟩
      case measure => simp [intOf]; omega
    · obtain rfl : k = s.size := by omega
      have HF : Hid (strOfNums (byL s) = strOfNums ((List.range ((s.size + 1 + 7) / 8)).map (oct (cutB (bitF s) (s.size + 1))))) := by
        show _ = _
        rw [bitF_cut]; unfold byL; rw [show s.size / 8 + 1 = (s.size + 1 + 7) / 8 by omega]
      go_wp2_with (first
        | (go_at_call 60; refine (put_row s w.heap.size s.size 1 wr HR.out (by omega) HP.out (bitF_end s).symm).mono ?_; rintro e w1 ⟨rfl, hp1, hg1⟩)
        | (go_at_call 61; refine (text_any w.heap.size (s.size + 1) _ w1 hp1 (by omega)).mono ?_; rintro e w2 ⟨rfl, hw⟩; subst w2))
      go_ret2
      exact ⟨by rw [HF.out]; rfl, (hb.grown hg1 hb.size (fun j hj => by cases hj; exact Nat.le_refl _)).drew⟩

set_option maxHeartbeats 400000 in
theorem implBytes_no (s : ByteArray) (w : World) (hm : s.size ≤ maxLen) (hr : rowOkB s = false) :
    Calls Tryd.prog 34 #[.string s] w fun e w' => e = .returned (.tuple #[.string ⟨#[]⟩, .bool false]) ∧ w' = w := by
  go_enter Tryd.func34, Tryd.ntmps34
  go_wp2_with (go_at_call 36; refine (implRowOk s w hm).mono ?_; rintro e w1 ⟨rfl, hw⟩; subst w1)
  go_ret2
  exact ⟨rfl, rfl⟩
end Go.Proofs.YtdokmojifkggjaaDoor
