/-
  The walks of impl.RowOk, spec.l02Row and spec.RowOk: whether a text is a row.
-/
import Derived.Test.YtnlbigjfnjcldaaGreatRows
import Derived.Test.YtnlbigjfnjcldaaGreatRowMath
import Derived.WalkKit
import Derived.WalkSpells
import Derived.StillTactics
import Derived.OwnWalk
namespace Go.Proofs.YtnlbigjfnjcldaaGreat
open Go.RowKit
set_option linter.unusedVariables false
set_option maxRecDepth 20000

set_option maxHeartbeats 1000000 in
theorem implRowOk (s : ByteArray) (w : World) (hm : s.size ≤ maxLen) :
    Calls Tryz.prog 53 #[.string s] w fun e w' => e = .returned (.bool (rowOkB s)) ∧ w' = w := by
  unfold maxLen at hm
  by_cases h : 400000 < s.size
  · have HF : Hid (rowOkB s = false) := rowOkB_big s h
    go_enter Tryz.func53, Tryz.ntmps53
    go_wp2
    go_ret
    exact ⟨by rw [HF.out]; rfl, rfl⟩
  · have HF : Hid (rowOkB s = rowB s) := rowOkB_small s (by omega)
    go_enter Tryz.func53, Tryz.ntmps53
    go_wp2
    go_loopw [9] (fun i wr => ∃ k : Nat, k ≤ s.size ∧ i = .int .i64 k ∧ Hid (∀ j, j < k → bitAt s j) ∧ wr = w)
      (fun i _ => s.size - (intOf i).toNat)
    case atStart => exact ⟨0, Nat.zero_le _, rfl, (fun j hj => by omega : ∀ j, j < 0 → bitAt s j), rfl⟩
    case round =>
      obtain ⟨k, hk, rfl, HG, rfl⟩ := hrel
      by_cases hlt : k < s.size
      · have HX : Hid ((s[k].toNat : Int) = bAt s k) := bAt_eq s k hlt
        by_cases c1 : (s[k].toNat : Int) = 48
        · have HB : Hid (bitAt s k) := .inl (by rw [← HX.out]; exact c1)
          have c1' : ((s[k].toNat : Int) != 48) = false := by simp [c1]
          clear c1
          go_wp2
          go_roundw
          case rel => exact ⟨k + 1, by omega, by go_num, (fun j hj => by rcases Nat.lt_succ_iff_lt_or_eq.1 hj with h | rfl; exact HG.out j h; exact HB.out : ∀ j, j < k + 1 → bitAt s j), trivial⟩
          case measure => simp [intOf]; omega
        by_cases c2 : (s[k].toNat : Int) = 49
        · have HB : Hid (bitAt s k) := .inr (by rw [← HX.out]; exact c2)
          have c1' : ((s[k].toNat : Int) != 48) = true := by simp [c2]
          have c2' : ((s[k].toNat : Int) != 49) = false := by simp [c2]
          clear c1 c2
          go_wp2
          go_roundw
          case rel => exact ⟨k + 1, by omega, by go_num, (fun j hj => by rcases Nat.lt_succ_iff_lt_or_eq.1 hj with h | rfl; exact HG.out j h; exact HB.out : ∀ j, j < k + 1 → bitAt s j), trivial⟩
          case measure => simp [intOf]; omega
        · have HE : Hid (rowB s = false) := rowB_bad s k hlt (fun g => by unfold bitAt at g; rw [← HX.out] at g; omega)
          have c1' : ((s[k].toNat : Int) != 48) = true := by simp; omega
          have c2' : ((s[k].toNat : Int) != 49) = true := by simp; omega
          clear c1 c2
          go_wp2
          go_ret
          exact ⟨by rw [HF.out, HE.out]; rfl, rfl⟩
      · have HE : Hid (rowB s = true) := rowB_good s (fun j hj => HG.out j (by omega))
        go_wp2
        go_ret
        exact ⟨by rw [HF.out, HE.out]; rfl, rfl⟩

set_option maxHeartbeats 1000000 in
theorem specRow (s : ByteArray) (w : World) (hm : s.size ≤ 400000) :
    Calls Tryz.prog 59 #[.string s] w fun e w' => e = .returned (.bool (rowB s)) ∧ w' = w := by
  go_enter Tryz.func59, Tryz.ntmps59
  go_wp2
  go_loopw [3] (fun i wr => ∃ k : Nat, k ≤ s.size ∧ i = .int .i64 k ∧ Hid (∀ j, j < k → bitAt s j) ∧ wr = w)
    (fun i _ => s.size - (intOf i).toNat)
  case atStart => exact ⟨0, Nat.zero_le _, rfl, (fun j hj => by omega : ∀ j, j < 0 → bitAt s j), rfl⟩
  case round =>
    obtain ⟨k, hk, rfl, HG, rfl⟩ := hrel
    by_cases hlt : k < s.size
    · have HX : Hid ((s[k].toNat : Int) = bAt s k) := bAt_eq s k hlt
      by_cases c1 : (s[k].toNat : Int) = 48
      · have HB : Hid (bitAt s k) := .inl (by rw [← HX.out]; exact c1)
        have c1' : ((s[k].toNat : Int) != 48) = false := by simp [c1]
        clear c1
        go_wp2
        go_roundw
        case rel => exact ⟨k + 1, by omega, by go_num, (fun j hj => by rcases Nat.lt_succ_iff_lt_or_eq.1 hj with h | rfl; exact HG.out j h; exact HB.out : ∀ j, j < k + 1 → bitAt s j), trivial⟩
        case measure => simp [intOf]; omega
      by_cases c2 : (s[k].toNat : Int) = 49
      · have HB : Hid (bitAt s k) := .inr (by rw [← HX.out]; exact c2)
        have c1' : ((s[k].toNat : Int) != 48) = true := by simp [c2]
        have c2' : ((s[k].toNat : Int) != 49) = false := by simp [c2]
        clear c1 c2
        go_wp2
        go_roundw
        case rel => exact ⟨k + 1, by omega, by go_num, (fun j hj => by rcases Nat.lt_succ_iff_lt_or_eq.1 hj with h | rfl; exact HG.out j h; exact HB.out : ∀ j, j < k + 1 → bitAt s j), trivial⟩
        case measure => simp [intOf]; omega
      · have HE : Hid (rowB s = false) := rowB_bad s k hlt (fun g => by unfold bitAt at g; rw [← HX.out] at g; omega)
        have c1' : ((s[k].toNat : Int) != 48) = true := by simp; omega
        have c2' : ((s[k].toNat : Int) != 49) = true := by simp; omega
        clear c1 c2
        go_wp2
        go_ret
        exact ⟨by rw [HE.out]; rfl, rfl⟩
    · have HE : Hid (rowB s = true) := rowB_good s (fun j hj => HG.out j (by omega))
      go_wp2
      go_ret
      exact ⟨by rw [HE.out]; rfl, rfl⟩

set_option maxHeartbeats 1000000 in
theorem specRowOk (s : ByteArray) (w : World) (hm : s.size ≤ maxLen) :
    Calls Tryz.prog 42 #[.string s] w fun e w' => e = .returned (.bool (rowOkB s)) ∧ w' = w := by
  unfold maxLen at hm
  by_cases h : 400000 < s.size
  · have HF : Hid (rowOkB s = false) := rowOkB_big s h
    go_enter Tryz.func42, Tryz.ntmps42
    go_wp2
    go_ret
    exact ⟨by rw [HF.out]; rfl, rfl⟩
  · have HF : Hid (rowOkB s = rowB s) := rowOkB_small s (by omega)
    go_enter Tryz.func42, Tryz.ntmps42
    go_wp2_with (go_at_call 59; refine (specRow _ _ (by omega)).mono ?_; rintro e w1 ⟨rfl, hw⟩; subst w1)
    go_ret
    exact ⟨by rw [HF.out]; rfl, rfl⟩
end Go.Proofs.YtnlbigjfnjcldaaGreat
