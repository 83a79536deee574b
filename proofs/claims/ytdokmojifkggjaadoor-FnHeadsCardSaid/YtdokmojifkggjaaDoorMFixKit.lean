/-
  What the walks of numbers in signs share.
  The walk of impl.FixRow: a number in signs.
  The walk of spec.l01In, beside what the walks of numbers in signs share.
  The walks of spec.l02Fix and spec.FixRow: a number in signs.
  The walks of spec.FoldSe and spec.OpenSe.
  The walk of spec.l02Read: a number out of what is known to be a row.
-/
import Derived.Test.YtdokmojifkggjaaDoorRows
import Derived.Test.YtdokmojifkggjaaDoorMSetMath
import Derived.WalkKit
import Derived.WalkSpells
import Derived.StillTactics
import Derived.OwnWalk
import Derived.Deep.RegionHeld3
import Derived.Deep.DrawnRows
import Derived.KernelRfl
import Derived.Test.YtdokmojifkggjaaDoorMInKit
namespace Go.Proofs.YtdokmojifkggjaaDoor
open Go.RowKit
set_option linter.unusedVariables false
set_option maxRecDepth 20000

theorem infoF : (Tryd.prog.info? 5).map (fun i => (i.zero, i.size, i.bytes)) = some (some (.int .u8 0), 1, 1) := by kernel_rfl
theorem convF {w : World} {B n : Nat} {v : Value} {zs : List Int} (h : w.ownsRow B 5 1 v n (zs.map (Value.int .u8))) :
    (convert 22 9 v).run Tryd.prog w = .ok (.string (strOfNums zs)) w := by
  have hl := h.1
  simp at hl
  rcases h.2 with ⟨rfl, rfl⟩ | ⟨g, cap, cur, rfl, _, hg, hn, _, hsz, htake⟩
  · rw [run_convert_bytes_nil w 22 5 Tryd.underlying22 Tryd.underlying5 0 0 9 Tryd.underlying9]
    have : zs = [] := List.eq_nil_of_length_eq_zero hl
    subst this; rfl
  · refine run_convert_bytes_arg w 22 5 Tryd.underlying22 Tryd.underlying5 g 0 n cap zs hl (fun i hi => ?_) 9 Tryd.underlying9
    rw [Nat.zero_add, cell_of_row w g i cur 5 (0, 0) hg]
    have hi' : i < zs.length := by omega
    have e1 : (cur.toList.take (n * 1))[i]? = (zs.map (Value.int .u8))[i]? := by rw [htake]
    rw [List.getElem?_take, if_pos (by omega)] at e1
    simp [List.getElem?_eq_getElem hi'] at e1 ⊢
    exact e1

/-- The cells when the places at and behind j (the first k) are filled. -/
def fixUp (n : Int) (w k i : Nat) : Int := if i < k then 48 + fixAt n w i else 0
def fixDn (n : Int) (w k i : Nat) : Int := if k ≤ i then 48 + fixAt n w i else 0
theorem fixUp_full (n : Int) (w : Nat) : (List.range w).map (fixUp n w w) = fixL n w := by
  unfold fixL; apply List.map_congr_left; intro i hi; simp [fixUp, List.mem_range.1 hi]
theorem fixDn_full (n : Int) (w : Nat) : (List.range w).map (fixDn n w 0) = fixL n w := by
  unfold fixL; apply List.map_congr_left; intro i hi; simp [fixDn]
theorem fixUp_set (n : Int) (w k : Nat) : (((List.range w).map (fixUp n w k)).map (Value.int .u8)).set k (.int .u8 (48 + fixAt n w k)) = ((List.range w).map (fixUp n w (k + 1))).map (Value.int .u8) := by
  rw [List.map_map, List.map_map]
  have e : Value.int .u8 (48 + fixAt n w k) = (Value.int .u8 ∘ fixUp n w (k + 1)) k := by simp [fixUp]
  rw [e]
  refine range_set w k _ _ (fun i hi => ?_)
  simp only [Function.comp, fixUp]
  by_cases h : i < k
  · simp [h, Nat.lt_succ_of_lt h]
  · simp [h, show ¬ i < k + 1 by omega]
theorem fixDn_set (n : Int) (w k : Nat) : (((List.range w).map (fixDn n w (k + 1))).map (Value.int .u8)).set k (.int .u8 (48 + fixAt n w k)) = ((List.range w).map (fixDn n w k)).map (Value.int .u8) := by
  rw [List.map_map, List.map_map]
  have e : Value.int .u8 (48 + fixAt n w k) = (Value.int .u8 ∘ fixDn n w k) k := by simp [fixDn]
  rw [e]
  refine range_set w k _ _ (fun i hi => ?_)
  simp only [Function.comp, fixDn]
  by_cases h : k + 1 ≤ i
  · simp [h, show k ≤ i by omega]
  · simp [h, show ¬ k ≤ i by omega]
theorem fixUp_zero (n : Int) (w : Nat) : (madeCells (Value.int .u8 0).cells (w * 1)).toList = ((List.range w).map (fixUp n w 0)).map (Value.int .u8) := by
  rw [made_one _ _ rfl, List.map_map]; apply List.map_congr_left; intro i hi; simp [fixUp]
theorem fixDn_zero (n : Int) (w : Nat) : (madeCells (Value.int .u8 0).cells (w * 1)).toList = ((List.range w).map (fixDn n w w)).map (Value.int .u8) := by
  rw [made_one _ _ rfl, List.map_map]; apply List.map_congr_left; intro i hi
  have := List.mem_range.1 hi
  simp [fixDn, show ¬ w ≤ i by omega]
end Go.Proofs.YtdokmojifkggjaaDoor

namespace Go.Proofs.YtdokmojifkggjaaDoor
open Go.RowKit
set_option linter.unusedVariables false
set_option maxRecDepth 20000

set_option maxHeartbeats 1000000 in
theorem implFix (n : Int) (k : Nat) (w : World) (h0 : 0 ≤ n) (hk : (k : Int) ≤ 30) (h1 : n < 2 ^ k) :
    Calls Tryd.prog 31 #[.int .i64 n, .int .i64 k] w fun e w' => e = .returned (.tuple #[.string (strOfNums (fixL n k)), .bool true]) ∧ Below w.heap.size w w' := by
  obtain ⟨i0, hi0, hz0, hz1, hz2⟩ := info_parts infoF
  obtain ⟨p, hp⟩ : ∃ p : Int, (2 : Int) ^ k = p := ⟨_, rfl⟩
  have hpb := pow_bd k (by omega)
  rw [hp] at hpb h1
  obtain ⟨hp0, hp1⟩ := hpb
  go_enter Tryd.func31, Tryd.ntmps31
  go_wp2_with (at_make; refine wpList_make_full _ (by rfl) _ _ 22 (by rfl) w.heap.size 5 i0 (.int .u8 0) 1 Tryd.underlying22 hi0 hz0 hz1 .i64 .i64 _ _ k (by rfl) (by rfl) (by rfl) (by rfl) (by rw [hz2]; omega) (by unfold maxLen; omega) (Nat.le_refl _) ?_; intro w1 hown0 hgrow0)
  have hb0 : Below w.heap.size w w1 := (Below.refl _ _).grown hgrow0 (Nat.le_refl _) (fun j hj => by cases hj)
  clear hgrow0
  rw [fixUp_zero n k] at hown0
  go_loopw [28] (fun i wr => ∃ j : Nat, j ≤ k ∧ i = .int .i64 (j : Int) ∧ wr.ownsRow w.heap.size 5 1 (.slice (some ⟨w.heap.size, 0, none⟩) k k) k (((List.range k).map (fixUp n k j)).map (Value.int .u8)) ∧ Below w.heap.size w wr)
    (fun i _ => k - (intOf i).toNat)
  case atStart => exact ⟨0, Nat.zero_le _, rfl, hown0, hb0⟩
  case round =>
    obtain ⟨j, hj, rfl, hown, hb⟩ := hrel
    clear hown0 hb0
    by_cases hlt : j < k
    · obtain ⟨m, hm⟩ : ∃ m, n / 2 ^ (k - 1 - j) = m := ⟨_, rfl⟩
      have hbd := div_pow_bd n (k - 1 - j) h0
      rw [hm] at hbd
      obtain ⟨hm0, hm1⟩ := hbd
      have HM : Hid (48 + m % 2 = 48 + fixAt n k j) := by
        show _ = _
        unfold fixAt; rw [hm]
      have ha := and1 m
      have hq : (j : Int) < (k : Int) := by omega
      have hc := hown.cellAt j (by omega)
      have hfz := hown.frozenAt j
      have hc' : wr.cell? ⟨w.heap.size, j, none⟩ = some (.int .u8 (fixUp n k j j)) := by rw [hc]; simp [hlt]
      have hst := hown.stored j (.int .u8 (48 + m % 2))
      clear hc
      have hbs := hb.grown hst.2 hb.size (fun j hj => by cases hj; exact Nat.le_refl _)
      have hos := hst.1
      rw [HM.out, fixUp_set] at hos
      go_wp2
      go_roundw
      case rel => exact ⟨j + 1, by omega, by go_num, by rw [HM.out]; exact hos, hbs⟩
      case measure => simp [intOf]; omega
    · obtain rfl : j = k := by omega
      rw [fixUp_full] at hown
      have hconv := convF hown
      go_wp2
      go_ret2
      exact ⟨rfl, hb⟩

set_option maxHeartbeats 1000000 in
theorem implFix_no (n k : Int) (w : World) (b0 : -9223372036854775808 ≤ n ∧ n ≤ 9223372036854775807) (b1 : -9223372036854775808 ≤ k ∧ k ≤ 9223372036854775807) (h : k < 0 ∨ 30 < k ∨ n < 0 ∨ 2 ^ k.toNat ≤ n) :
    Calls Tryd.prog 31 #[.int .i64 n, .int .i64 k] w fun e w' => e = .returned (.tuple #[.string ⟨#[]⟩, .bool false]) ∧ w' = w := by
  by_cases h1 : k < 0
  · go_enter Tryd.func31, Tryd.ntmps31
    go_wp2
    go_ret2
    exact ⟨rfl, rfl⟩
  by_cases h2 : 30 < k
  · go_enter Tryd.func31, Tryd.ntmps31
    go_wp2
    go_ret2
    exact ⟨rfl, rfl⟩
  by_cases h3 : n < 0
  · go_enter Tryd.func31, Tryd.ntmps31
    go_wp2
    go_ret2
    exact ⟨rfl, rfl⟩
  obtain ⟨p, hp⟩ : ∃ p : Int, (2 : Int) ^ k.toNat = p := ⟨_, rfl⟩
  have hpb := pow_bd k.toNat (by omega)
  rw [hp] at hpb h
  obtain ⟨hp0, hp1⟩ := hpb
  have h4 : p ≤ n := by omega
  clear h
  go_enter Tryd.func31, Tryd.ntmps31
  go_wp2
  go_ret2
  exact ⟨rfl, rfl⟩
end Go.Proofs.YtdokmojifkggjaaDoor


namespace Go.Proofs.YtdokmojifkggjaaDoor
open Go.RowKit
set_option linter.unusedVariables false
set_option maxRecDepth 20000

set_option maxHeartbeats 1000000 in
theorem specFix (n : Int) (k : Nat) (w : World) (h0 : 0 ≤ n) (h1 : n ≤ 1073741824) (hk : (k : Int) ≤ 30) :
    Calls Tryd.prog 48 #[.int .i64 n, .int .i64 k] w fun e w' => e = .returned (.string (strOfNums (fixL n k))) ∧ Below w.heap.size w w' := by
  obtain ⟨i0, hi0, hz0, hz1, hz2⟩ := info_parts infoF
  go_enter Tryd.func48, Tryd.ntmps48
  go_wp2_with (at_make; refine wpList_make_full _ (by rfl) _ _ 22 (by rfl) w.heap.size 5 i0 (.int .u8 0) 1 Tryd.underlying22 hi0 hz0 hz1 .i64 .i64 _ _ k (by rfl) (by rfl) (by rfl) (by rfl) (by rw [hz2]; omega) (by unfold maxLen; omega) (Nat.le_refl _) ?_; intro w1 hown0 hgrow0)
  have hb0 : Below w.heap.size w w1 := (Below.refl _ _).grown hgrow0 (Nat.le_refl _) (fun j hj => by cases hj)
  clear hgrow0
  rw [fixDn_zero n k] at hown0
  go_loopw [0, 6] (fun m i wr => ∃ j : Nat, j ≤ k ∧ i = .int .i64 ((j : Int) - 1) ∧ m = .int .i64 (n / 2 ^ (k - j)) ∧ wr.ownsRow w.heap.size 5 1 (.slice (some ⟨w.heap.size, 0, none⟩) k k) k (((List.range k).map (fixDn n k j)).map (Value.int .u8)) ∧ Below w.heap.size w wr)
    (fun _ i _ => ((intOf i) + 1).toNat)
  case atStart => exact ⟨k, Nat.le_refl _, rfl, by simp, hown0, hb0⟩
  case round =>
    obtain ⟨j, hj, rfl, rfl, hown, hb⟩ := hrel
    clear hown0 hb0
    obtain ⟨m, hm⟩ : ∃ m, n / 2 ^ (k - j) = m := ⟨_, rfl⟩
    have hbd := div_pow_bd n (k - j) h0
    rw [hm] at hbd ⊢
    obtain ⟨hm0, hm1⟩ := hbd
    by_cases hlt : 0 < j
    · obtain ⟨q, rfl⟩ : ∃ q, j = q + 1 := ⟨j - 1, by omega⟩
      have HM : Hid (48 + m % 2 = 48 + fixAt n k q) := by
        show _ = _
        unfold fixAt; rw [show k - 1 - q = k - (q + 1) by omega, hm]
      have HD : Hid (m / 2 = n / 2 ^ (k - q)) := by
        show _ = _
        rw [← hm, half_pow, show k - (q + 1) + 1 = k - q by omega]
      have hq : (q : Int) < (k : Int) := by omega
      have hc := hown.cellAt q (by omega)
      have hfz := hown.frozenAt q
      have hc' : wr.cell? ⟨w.heap.size, q, none⟩ = some (.int .u8 (fixDn n k (q + 1) q)) := by rw [hc]; simp [show q < k by omega]
      have hst := hown.stored q (.int .u8 (48 + m % 2))
      clear hc
      have hbs := hb.grown hst.2 hb.size (fun j hj => by cases hj; exact Nat.le_refl _)
      have hos := hst.1
      rw [HM.out, fixDn_set] at hos
      go_wp2
      go_roundw
      case rel => exact ⟨q, by omega, rfl, by rw [HD.out], by rw [HM.out]; exact hos, hbs⟩
      case measure => simp [intOf]
    · obtain rfl : j = 0 := by omega
      rw [fixDn_full] at hown
      have hconv := convF hown
      go_wp2
      go_ret
      exact ⟨rfl, hb⟩

end Go.Proofs.YtdokmojifkggjaaDoor

namespace Go.Proofs.YtdokmojifkggjaaDoor
open Go.RowKit
set_option linter.unusedVariables false
set_option maxRecDepth 20000

theorem specFold (n : Int) (w : World) (h : -500000 ≤ n ∧ n ≤ 500000) :
    Calls Tryd.prog 70 #[.int .i64 n] w fun e w' => e = .returned (.tuple #[.int .i64 (seF n), .bool true]) ∧ w' = w := by
  have hin : (decide ((-500000 : Int) ≤ n) && decide (n ≤ 500000)) = true := by simp; omega
  obtain ⟨h0, h1⟩ := h
  by_cases c : 0 < n
  · have HF : Hid (seF n = 2 * n - 1) := seF_pos n c
    go_enter Tryd.func70, Tryd.ntmps70
    go_wp2_with (go_at_call 44; refine (in_any _ _ _ _).mono ?_; rintro e w1 ⟨rfl, hw⟩; subst w1)
    go_ret2
    exact ⟨by rw [HF.out]; rfl, rfl⟩
  · have HF : Hid (seF n = -2 * n) := seF_neg n c
    go_enter Tryd.func70, Tryd.ntmps70
    go_wp2_with (go_at_call 44; refine (in_any _ _ _ _).mono ?_; rintro e w1 ⟨rfl, hw⟩; subst w1)
    go_ret2
    exact ⟨by rw [HF.out]; rfl, rfl⟩
theorem specFold_no (n : Int) (w : World) (h : n < -500000 ∨ 500000 < n) :
    Calls Tryd.prog 70 #[.int .i64 n] w fun e w' => e = .returned (.tuple #[.int .i64 0, .bool false]) ∧ w' = w := by
  have hin : (decide ((-500000 : Int) ≤ n) && decide (n ≤ 500000)) = false := by simp; omega
  clear h
  go_enter Tryd.func70, Tryd.ntmps70
  go_wp2_with (go_at_call 44; refine (in_any _ _ _ _).mono ?_; rintro e w1 ⟨rfl, hw⟩; subst w1)
  go_ret2
  exact ⟨rfl, rfl⟩
theorem specOpen (u : Int) (w : World) (h : 0 ≤ u ∧ u ≤ 1000000) :
    Calls Tryd.prog 73 #[.int .i64 u] w fun e w' => e = .returned (.tuple #[.int .i64 (seO u), .bool true]) ∧ w' = w := by
  have hin : (decide ((0 : Int) ≤ u) && decide (u ≤ 1000000)) = true := by simp; omega
  obtain ⟨h0, h1⟩ := h
  by_cases c : u % 2 = 1
  · have HF : Hid (seO u = (u + 1) / 2) := seO_odd u c
    go_enter Tryd.func73, Tryd.ntmps73
    go_wp2_with (go_at_call 44; refine (in_any _ _ _ _).mono ?_; rintro e w1 ⟨rfl, hw⟩; subst w1)
    go_ret2
    exact ⟨by rw [HF.out]; rfl, rfl⟩
  · have HF : Hid (seO u = -(u / 2)) := seO_even u c
    have c' : (u % 2 == 1) = false := by simpa using c
    go_enter Tryd.func73, Tryd.ntmps73
    go_wp2_with (go_at_call 44; refine (in_any _ _ _ _).mono ?_; rintro e w1 ⟨rfl, hw⟩; subst w1)
    go_ret2
    exact ⟨by rw [HF.out]; rfl, rfl⟩
theorem specOpen_no (u : Int) (w : World) (h : u < 0 ∨ 1000000 < u) :
    Calls Tryd.prog 73 #[.int .i64 u] w fun e w' => e = .returned (.tuple #[.int .i64 0, .bool false]) ∧ w' = w := by
  have hin : (decide ((0 : Int) ≤ u) && decide (u ≤ 1000000)) = false := by simp; omega
  clear h
  go_enter Tryd.func73, Tryd.ntmps73
  go_wp2_with (go_at_call 44; refine (in_any _ _ _ _).mono ?_; rintro e w1 ⟨rfl, hw⟩; subst w1)
  go_ret2
  exact ⟨rfl, rfl⟩
end Go.Proofs.YtdokmojifkggjaaDoor

namespace Go.Proofs.YtdokmojifkggjaaDoor
open Go.RowKit
set_option linter.unusedVariables false
set_option maxRecDepth 20000

set_option maxHeartbeats 1000000 in
theorem specRead (s : ByteArray) (a k : Nat) (w : World) (hr : rowOkB s = true) (hk : (k : Int) ≤ 30) (hak : (a : Int) + (k : Int) ≤ (s.size : Int)) :
    Calls Tryd.prog 53 #[.string s, .int .i64 a, .int .i64 k] w fun e w' => e = .returned (.tuple #[.int .i64 (readN s a k), .int .i64 ((a : Int) + (k : Int)), .bool true]) ∧ w' = w := by
  obtain ⟨h4, hrow⟩ := rowOkB_true s hr
  have h4' : (s.size : Int) ≤ 400000 := by omega
  have HR : Hid (rowB s = true) := hrow
  clear hrow
  go_enter Tryd.func53, Tryd.ntmps53
  go_wp2
  go_loopw [9, 10] (fun n i wr => ∃ j : Nat, j ≤ k ∧ i = .int .i64 ((a : Int) + (j : Int)) ∧ n = .int .i64 (readN s a j) ∧ wr = w)
    (fun _ i _ => a + k - (intOf i).toNat)
  case atStart => exact ⟨0, Nat.zero_le _, by simp, rfl, rfl⟩
  case round =>
    obtain ⟨j, hj, rfl, rfl, rfl⟩ := hrel
    have hbd := readN_bd s a j HR.out (by omega) (by omega)
    by_cases hlt : j < k
    · have HS : Hid (readN s a (j + 1) = 2 * readN s a j + (bAt s (a + j) - 48)) := rfl
      have HX : Hid ((s[a + j].toNat : Int) = bAt s (a + j)) := bAt_eq s (a + j) (by omega)
      have hbit : 48 ≤ (s[a + j].toNat : Int) ∧ (s[a + j].toNat : Int) ≤ 49 := by
        have := rowB_bit s HR.out (a + j) (by omega); unfold bitAt at this; rw [← HX.out] at this; omega
      generalize readN s a j = n at *
      have hq : (j : Int) < (k : Int) := by omega
      go_wp2
      go_roundw
      case rel => exact ⟨j + 1, by omega, by go_num, by rw [HS.out, ← HX.out]; congr 1; omega, trivial⟩
      case measure => simp [intOf]; omega
    · obtain rfl : j = k := by omega
      go_wp2
      go_ret3
      exact ⟨rfl, rfl⟩

set_option maxHeartbeats 1000000 in
theorem specRead_no (s : ByteArray) (a k : Nat) (w : World) (h4 : (s.size : Int) ≤ 400000) (ha : (a : Int) ≤ (s.size : Int)) (hk : (k : Int) ≤ 30) (hak : (s.size : Int) - (a : Int) < (k : Int)) :
    Calls Tryd.prog 53 #[.string s, .int .i64 a, .int .i64 k] w fun e w' => e = .returned (.tuple #[.int .i64 0, .int .i64 0, .bool false]) ∧ w' = w := by
  go_enter Tryd.func53, Tryd.ntmps53
  go_wp2
  go_ret3
  exact ⟨rfl, rfl⟩
end Go.Proofs.YtdokmojifkggjaaDoor
