/-
  The walks of spec.l02Fix and spec.FixRow: a number in signs.
-/
import Derived.Test.YtdokmojifkggjaaDoorFixKit
import Derived.Test.YtdokmojifkggjaaDoorInAny
namespace Go.Proofs.YtdokmojifkggjaaDoor
open Go.RowKit
set_option linter.unusedVariables false
set_option maxRecDepth 20000

set_option maxHeartbeats 1000000 in
theorem specFix (n : Int) (k : Nat) (w : World) (h0 : 0 ≤ n) (h1 : n ≤ 1073741824) (hk : (k : Int) ≤ 30) :
    Calls Tryd.prog 48 #[.int .i64 n, .int .i64 k] w fun e w' => e = .returned (.string (strOfNums (fixL n k))) ∧ Below w.heap.size w w' := by
  obtain ⟨i0, hi0, hz0, hz1, hz2⟩ := info_parts infoF
  go_enter Tryd.func48, Tryd.ntmps48
  go_wp2_with (at_make; refine wpList_make_full _ (by rfl) _ _ 22 (by rfl) w.heap.size 5 i0 (.int .u8 0) 1 Tryd.underlying22 hi0 hz0 hz1 .i64 .i64 _ _ k (by rfl) (by rfl) (by rfl) (by rfl) (by rw [hz2]; omega) (by unfold maxLen; omega) (Nat.le_refl _) ?_; intro w1 hown0 hgrow0)
  have hb0 : Below w.heap.size w w1 := (Below.refl _ _).grown hgrow0 (Nat.le_refl _) (fun j hj => by cases hj)
  clear hgrow0
  rw [fixDn_zero n k] at hown0
  go_loopw [0, 6] (fun m i wr => ∃ j : Nat, j ≤ k ∧ i = .int .i64 ((j : Int) - 1) ∧ m = .int .i64 (n / 2 ^ (k - j)) ∧ wr.ownsRow w.heap.size 5 1 (.slice (some ⟨w.heap.size, 0, none⟩) k k) k (((List.range k).map (fixDn n k j)).map (Value.int .u8)) ∧ Below w.heap.size w wr)
    (fun _ i _ => ((intOf i) + 1).toNat)
  case atStart => exact ⟨k, Nat.le_refl _, rfl, by simp, hown0, hb0⟩
  case round =>
    obtain ⟨j, hj, rfl, rfl, hown, hb⟩ := hrel
    clear hown0 hb0
    obtain ⟨m, hm⟩ : ∃ m, n / 2 ^ (k - j) = m := ⟨_, rfl⟩
    have hbd := div_pow_bd n (k - j) h0
    rw [hm] at hbd ⊢
    obtain ⟨hm0, hm1⟩ := hbd
    by_cases hlt : 0 < j
    · obtain ⟨q, rfl⟩ : ∃ q, j = q + 1 := ⟨j - 1, by omega⟩
      have HM : Hid (48 + m % 2 = 48 + fixAt n k q) := by
        show _ = _
        unfold fixAt; rw [show k - 1 - q = k - (q + 1) by omega, hm]
      have HD : Hid (m / 2 = n / 2 ^ (k - q)) := by
        show _ = _
        rw [← hm, half_pow, show k - (q + 1) + 1 = k - q by omega]
      have hq : (q : Int) < (k : Int) := by omega
      have hc := hown.cellAt q (by omega)
      have hfz := hown.frozenAt q
      have hc' : wr.cell? ⟨w.heap.size, q, none⟩ = some (.int .u8 (fixDn n k (q + 1) q)) := by rw [hc]; simp [show q < k by omega]
      have hst := hown.stored q (.int .u8 (48 + m % 2))
      clear hc
      have hbs := hb.grown hst.2 hb.size (fun j hj => by cases hj; exact Nat.le_refl _)
      have hos := hst.1
      rw [HM.out, fixDn_set] at hos
      go_wp2
      go_roundw
      case rel => exact ⟨q, by omega, rfl, by rw [HD.out], by rw [HM.out]; exact hos, hbs⟩
      case measure => simp [intOf]
    · obtain rfl : j = 0 := by omega
      rw [fixDn_full] at hown
      have hconv := convF hown
      go_wp2
      go_ret
      exact ⟨rfl, hb⟩

end Go.Proofs.YtdokmojifkggjaaDoor
