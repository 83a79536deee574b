/-
  The walk of impl.FixRow: a number in signs.
-/
import Derived.Test.YtlejfkjanllgbaaGreatDoorFixKit
namespace Go.Proofs.YtlejfkjanllgbaaGreatDoor
open Go.RowKit
set_option linter.unusedVariables false
set_option maxRecDepth 20000

set_option maxHeartbeats 1000000 in
theorem implFix (n : Int) (k : Nat) (w : World) (h0 : 0 ≤ n) (hk : (k : Int) ≤ 30) (h1 : n < 2 ^ k) :
    Calls Tryz.prog 96 #[.int .i64 n, .int .i64 k] w fun e w' => e = .returned (.tuple #[.string (strOfNums (fixL n k)), .bool true]) ∧ Below w.heap.size w w' := by
  obtain ⟨i0, hi0, hz0, hz1, hz2⟩ := info_parts infoF
  obtain ⟨p, hp⟩ : ∃ p : Int, (2 : Int) ^ k = p := ⟨_, rfl⟩
  have hpb := pow_bd k (by omega)
  rw [hp] at hpb h1
  obtain ⟨hp0, hp1⟩ := hpb
  go_enter Tryz.func96, Tryz.ntmps96
  go_wp2_with (at_make; refine wpList_make_full _ (by rfl) _ _ 22 (by rfl) w.heap.size 5 i0 (.int .u8 0) 1 Tryz.underlying22 hi0 hz0 hz1 .i64 .i64 _ _ k (by rfl) (by rfl) (by rfl) (by rfl) (by rw [hz2]; omega) (by unfold maxLen; omega) (Nat.le_refl _) ?_; intro w1 hown0 hgrow0)
  have hb0 : Below w.heap.size w w1 := (Below.refl _ _).grown hgrow0 (Nat.le_refl _) (fun j hj => by cases hj)
  clear hgrow0
  rw [fixUp_zero n k] at hown0
  go_loopw [28] (fun i wr => ∃ j : Nat, j ≤ k ∧ i = .int .i64 (j : Int) ∧ wr.ownsRow w.heap.size 5 1 (.slice (some ⟨w.heap.size, 0, none⟩) k k) k (((List.range k).map (fixUp n k j)).map (Value.int .u8)) ∧ Below w.heap.size w wr)
    (fun i _ => k - (intOf i).toNat)
  case atStart => exact ⟨0, Nat.zero_le _, rfl, hown0, hb0⟩
  case round =>
    obtain ⟨j, hj, rfl, hown, hb⟩ := hrel
    clear hown0 hb0
    by_cases hlt : j < k
    · obtain ⟨m, hm⟩ : ∃ m, n / 2 ^ (k - 1 - j) = m := ⟨_, rfl⟩
      have hbd := div_pow_bd n (k - 1 - j) h0
      rw [hm] at hbd
      obtain ⟨hm0, hm1⟩ := hbd
      have HM : Hid (48 + m % 2 = 48 + fixAt n k j) := by
        show _ = _
        unfold fixAt; rw [hm]
      have ha := and1 m
      have hq : (j : Int) < (k : Int) := by omega
      have hc := hown.cellAt j (by omega)
      have hfz := hown.frozenAt j
      have hc' : wr.cell? ⟨w.heap.size, j, none⟩ = some (.int .u8 (fixUp n k j j)) := by rw [hc]; simp [hlt]
      have hst := hown.stored j (.int .u8 (48 + m % 2))
      clear hc
      have hbs := hb.grown hst.2 hb.size (fun j hj => by cases hj; exact Nat.le_refl _)
      have hos := hst.1
      rw [HM.out, fixUp_set] at hos
      go_wp2
      go_roundw
      case rel => exact ⟨j + 1, by omega, by go_num, by rw [HM.out]; exact hos, hbs⟩
      case measure => simp [intOf]; omega
    · obtain rfl : j = k := by omega
      rw [fixUp_full] at hown
      have hconv := convF hown
      go_wp2
      go_ret2
      exact ⟨rfl, hb⟩

set_option maxHeartbeats 1000000 in
theorem implFix_no (n k : Int) (w : World) (b0 : -9223372036854775808 ≤ n ∧ n ≤ 9223372036854775807) (b1 : -9223372036854775808 ≤ k ∧ k ≤ 9223372036854775807) (h : k < 0 ∨ 30 < k ∨ n < 0 ∨ 2 ^ k.toNat ≤ n) :
    Calls Tryz.prog 96 #[.int .i64 n, .int .i64 k] w fun e w' => e = .returned (.tuple #[.string ⟨#[]⟩, .bool false]) ∧ w' = w := by
  by_cases h1 : k < 0
  · go_enter Tryz.func96, Tryz.ntmps96
    go_wp2
    go_ret2
    exact ⟨rfl, rfl⟩
  by_cases h2 : 30 < k
  · go_enter Tryz.func96, Tryz.ntmps96
    go_wp2
    go_ret2
    exact ⟨rfl, rfl⟩
  by_cases h3 : n < 0
  · go_enter Tryz.func96, Tryz.ntmps96
    go_wp2
    go_ret2
    exact ⟨rfl, rfl⟩
  obtain ⟨p, hp⟩ : ∃ p : Int, (2 : Int) ^ k.toNat = p := ⟨_, rfl⟩
  have hpb := pow_bd k.toNat (by omega)
  rw [hp] at hpb h
  obtain ⟨hp0, hp1⟩ := hpb
  have h4 : p ≤ n := by omega
  clear h
  go_enter Tryz.func96, Tryz.ntmps96
  go_wp2
  go_ret2
  exact ⟨rfl, rfl⟩
end Go.Proofs.YtlejfkjanllgbaaGreatDoor
