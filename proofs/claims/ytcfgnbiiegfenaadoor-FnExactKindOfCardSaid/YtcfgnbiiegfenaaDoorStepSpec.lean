/-
  The walks of spec's steps: StepOf, KindOf, l08Pick, ScaleOf, ShareOf.
-/
import Derived.Test.YtcfgnbiiegfenaaDoorInKit
import Derived.Test.YtcfgnbiiegfenaaDoorStepMath
import Derived.LoopTactic
namespace Go.Proofs.YtcfgnbiiegfenaaDoor
open Go.RowKit
set_option linter.unusedVariables false
set_option maxRecDepth 20000

theorem two_step (b : Int) (k : Nat) : 2 * (b * 2 ^ k) = b * 2 ^ (k + 1) := by rw [Int.pow_succ]; rw [Int.mul_comm 2, Int.mul_assoc]
theorem two_le (k : Nat) (h : k ≤ 6) : (1 : Int) ≤ 2 ^ k ∧ (2 : Int) ^ k ≤ 64 := by
  rcases q_cases (show k < 7 by omega) with rfl | rfl | rfl | rfl | rfl | rfl | rfl <;> decide

set_option maxHeartbeats 400000 in
theorem specStepOf (qp : Int) (w : World) : Calls Tryd.prog 21 #[.int .i64 qp] w fun e w' => e = .returned (.int .i64 (stepF qp)) ∧ w' = w := by
  have HI := in_any qp 0 40 w
  by_cases h : 0 ≤ qp ∧ qp ≤ 40
  · have hd : (decide (0 ≤ qp) && decide (qp ≤ 40)) = true := by simp; omega
    rw [hd] at HI
    obtain ⟨r, q, hr, hq, er, eq⟩ := qp_parts h
    have e1 : stepF qp = atT scL qp 0 * 2 ^ q := by
      unfold stepF twoQ; rw [if_pos h, eq]; rfl
    have hB := atSc_in qp 0 h (by omega)
    have HB : Hid (scL.getD (3 * r) 0 = atT scL qp 0) := by show _ = atT scL qp 0; unfold atT; rw [er]; simp
    rw [e1]
    generalize atT scL qp 0 = b at *
    obtain ⟨h0, h1⟩ := h
    clear hd e1
    rcases r_cases hr with rfl | rfl | rfl | rfl | rfl | rfl
    all_goals
      go_enter Tryd.func21, Tryd.ntmps21
      go_wp2_with fail
      refine HI.mono ?_
      rintro e w1 ⟨rfl, hw⟩
      subst w1
      go_wp2
      go_loopw [3, 4] (fun v i wr => ∃ k : Nat, k ≤ q ∧ i = .int .i64 k ∧ v = .int .i64 (b * 2 ^ k) ∧ wr = w) (fun _ i _ => q - (intOf i).toNat)
      case atStart => exact ⟨0, Nat.zero_le _, rfl, by rw [← HB.out]; rfl, rfl⟩
      case round =>
        obtain ⟨k, hk, rfl, rfl, rfl⟩ := hrel
        have hp := two_le k (by omega)
        have hm := mul_in (A := 29) (B := 64) (show 0 ≤ b by omega) hB.2 (show (0 : Int) ≤ 2 ^ k by omega) hp.2
        have HS : Hid (2 * (b * 2 ^ k) = b * 2 ^ (k + 1)) := two_step b k
        by_cases hlt : k < q
        · have hlt' : (k : Int) < (q : Int) := by omega
          generalize b * 2 ^ k = m at *
          go_wp2
          go_roundw
          case rel => exact ⟨k + 1, by omega, by go_num, by rw [← HS.out], by first | rfl | trivial⟩
          case measure => simp [intOf]; omega
        · obtain rfl : k = q := by omega
          clear HS
          obtain ⟨m, HM⟩ : ∃ m, Hid (b * 2 ^ k = m) := ⟨_, rfl⟩
          rw [HM.out] at hm ⊢
          go_wp2
          go_ret
          exact ⟨by rw [HM.out]; rfl, rfl⟩
  · have hd : (decide (0 ≤ qp) && decide (qp ≤ 40)) = false := by simp; omega
    rw [hd] at HI
    have e1 : stepF qp = 0 := by unfold stepF; rw [if_neg h]
    rw [e1]
    clear hd e1 h
    go_enter Tryd.func21, Tryd.ntmps21
    go_wp2_with fail
    refine HI.mono ?_
    rintro e w1 ⟨rfl, hw⟩
    subst w1
    go_wp2
    go_ret
    exact ⟨rfl, rfl⟩
theorem specKindOf (p : Int) (w : World) : Calls Tryd.prog 22 #[.int .i64 p] w fun e w' => e = .returned (.int .i64 (kindF p)) ∧ w' = w := by
  have HI := in_any p 0 15 w
  by_cases h : 0 ≤ p ∧ p ≤ 15
  · have hd : (decide (0 ≤ p) && decide (p ≤ 15)) = true := by simp; omega
    rw [hd] at HI
    have e1 : kindF p = kdL.getD (2 * (p / 4 % 2).toNat + (p % 4 % 2).toNat) 0 := by unfold kindF; rw [if_pos h]
    have h1 : p / 4 % 2 = 0 ∨ p / 4 % 2 = 1 := by omega
    have h2 : p % 4 % 2 = 0 ∨ p % 4 % 2 = 1 := by omega
    obtain ⟨p0, p1⟩ := h
    clear hd
    rcases h1 with e | e <;> rcases h2 with f | f <;> rw [e, f] at e1
    all_goals
      rw [e1]
      clear e1
      go_enter Tryd.func22, Tryd.ntmps22
      go_wp2_with fail
      refine HI.mono ?_
      rintro e w1 ⟨rfl, hw⟩
      subst w1
      go_wp2
      go_ret
      exact ⟨rfl, rfl⟩
  · have hd : (decide (0 ≤ p) && decide (p ≤ 15)) = false := by simp; omega
    rw [hd] at HI
    rw [kindF_no p h]
    clear hd h
    go_enter Tryd.func22, Tryd.ntmps22
    go_wp2_with fail
    refine HI.mono ?_
    rintro e w1 ⟨rfl, hw⟩
    subst w1
    go_wp2
    go_ret
    exact ⟨rfl, rfl⟩
def pickF (k a b c : Int) : Int := if k = 0 then a else if k = 1 then b else c
theorem pick_to (k a b c m : Int) (w : World) (h : pickF k a b c = m) : Calls Tryd.prog 44 #[.int .i64 k, .int .i64 a, .int .i64 b, .int .i64 c] w fun e w' => e = .returned (.int .i64 m) ∧ w' = w := by
  subst h
  by_cases h0 : k = 0
  · subst h0
    go_enter Tryd.func44, Tryd.ntmps44
    go_wp2
    go_ret
    exact ⟨rfl, rfl⟩
  by_cases h1 : k = 1
  · subst h1
    go_enter Tryd.func44, Tryd.ntmps44
    go_wp2
    go_ret
    exact ⟨rfl, rfl⟩
  have e1 : pickF k a b c = c := by unfold pickF; rw [if_neg h0, if_neg h1]
  have b0 : (k == 0) = false := by simpa using h0
  have b1 : (k == 1) = false := by simpa using h1
  rw [e1]
  clear e1 h0 h1
  go_enter Tryd.func44, Tryd.ntmps44
  go_wp2
  go_ret
  exact ⟨rfl, rfl⟩
theorem pick_at (l : List Int) (qp k : Int) (r : Nat) (hk : 0 ≤ k ∧ k ≤ 2) (er : qp % 6 = r) : pickF k (l.getD (3 * r) 0) (l.getD (3 * r + 1) 0) (l.getD (3 * r + 2) 0) = atT l qp k := by
  unfold atT pickF
  rw [er]
  rcases k_cases hk with rfl | rfl | rfl <;> simp
set_option maxHeartbeats 800000 in
theorem specScaleOf (qp p : Int) (w : World) : Calls Tryd.prog 24 #[.int .i64 qp, .int .i64 p] w fun e w' => e = .returned (.int .i64 (scaleF qp p)) ∧ w' = w := by
  have HI := in_any qp 0 40 w
  have HK := specKindOf p w
  by_cases h : 0 ≤ qp ∧ qp ≤ 40
  · have hd : (decide (0 ≤ qp) && decide (qp ≤ 40)) = true := by simp; omega
    rw [hd] at HI
    by_cases hp : 0 ≤ p ∧ p ≤ 15
    · obtain ⟨r, q, hr, hq, er, eq⟩ := qp_parts h
      have hk := kindF_in p hp
      have hB := atSc_in qp (kindF p) h hk
      have HB : Hid (pickF (kindF p) (scL.getD (3 * r) 0) (scL.getD (3 * r + 1) 0) (scL.getD (3 * r + 2) 0) = atT scL qp (kindF p)) := pick_at scL qp _ r hk er
      have e1 : scaleF qp p = atT scL qp (kindF p) * 2 ^ q := by
        rw [scaleF_pos qp p h hp]; unfold twoQ; rw [eq]; rfl
      rw [e1]
      generalize atT scL qp (kindF p) = b at *
      generalize kindF p = kd at *
      obtain ⟨h0, h1⟩ := h
      clear hd e1 hp
      rcases r_cases hr with rfl | rfl | rfl | rfl | rfl | rfl
      all_goals
        go_enter Tryd.func24, Tryd.ntmps24
        go_wp2_with fail
        refine HK.mono ?_
        rintro e w1 ⟨rfl, hw⟩
        subst w1
        go_wp2_with fail
        refine HI.mono ?_
        rintro e w1 ⟨rfl, hw⟩
        subst w1
        go_wp2_with fail
        refine (pick_to _ _ _ _ b w HB.out).mono ?_
        rintro e w1 ⟨rfl, hw⟩
        subst w1
        go_wp2
        go_loopw [6, 7] (fun v i wr => ∃ k : Nat, k ≤ q ∧ i = .int .i64 k ∧ v = .int .i64 (b * 2 ^ k) ∧ wr = w) (fun _ i _ => q - (intOf i).toNat)
        case atStart => exact ⟨0, Nat.zero_le _, rfl, by simp, rfl⟩
        case round =>
          obtain ⟨k, hk, rfl, rfl, rfl⟩ := hrel
          have hp := two_le k (by omega)
          have hm := mul_in (A := 29) (B := 64) (show 0 ≤ b by omega) hB.2 (show (0 : Int) ≤ 2 ^ k by omega) hp.2
          have HS : Hid (2 * (b * 2 ^ k) = b * 2 ^ (k + 1)) := two_step b k
          by_cases hlt : k < q
          · have hlt' : (k : Int) < (q : Int) := by omega
            generalize b * 2 ^ k = m at *
            go_wp2
            go_roundw
            case rel => exact ⟨k + 1, by omega, by go_num, by rw [← HS.out], by first | rfl | trivial⟩
            case measure => simp [intOf]; omega
          · obtain rfl : k = q := by omega
            clear HS
            obtain ⟨m, HM⟩ : ∃ m, Hid (b * 2 ^ k = m) := ⟨_, rfl⟩
            rw [HM.out] at hm ⊢
            go_wp2
            go_ret
            exact ⟨by rw [HM.out]; rfl, rfl⟩
    · have e1 : scaleF qp p = 0 := by unfold scaleF; rw [if_neg (fun c => hp c.2)]
      rw [kindF_no p hp] at HK
      rw [e1]
      clear e1 hd h hp
      go_enter Tryd.func24, Tryd.ntmps24
      go_wp2_with fail
      refine HK.mono ?_
      rintro e w1 ⟨rfl, hw⟩
      subst w1
      go_wp2_with fail
      refine HI.mono ?_
      rintro e w1 ⟨rfl, hw⟩
      subst w1
      go_wp2
      go_ret
      exact ⟨rfl, rfl⟩
  · have hd : (decide (0 ≤ qp) && decide (qp ≤ 40)) = false := by simp; omega
    rw [hd] at HI
    have e1 : scaleF qp p = 0 := by unfold scaleF; rw [if_neg (fun c => h c.1)]
    rw [e1]
    generalize kindF p = kd at *
    clear hd e1 h
    go_enter Tryd.func24, Tryd.ntmps24
    go_wp2_with fail
    refine HK.mono ?_
    rintro e w1 ⟨rfl, hw⟩
    subst w1
    go_wp2_with fail
    refine HI.mono ?_
    rintro e w1 ⟨rfl, hw⟩
    subst w1
    go_wp2
    go_ret
    exact ⟨rfl, rfl⟩
set_option maxHeartbeats 800000 in
theorem specShareOf (qp p : Int) (w : World) : Calls Tryd.prog 25 #[.int .i64 qp, .int .i64 p] w fun e w' => e = .returned (.int .i64 (shareF qp p)) ∧ w' = w := by
  have HI := in_any qp 0 40 w
  have HK := specKindOf p w
  by_cases h : 0 ≤ qp ∧ qp ≤ 40
  · have hd : (decide (0 ≤ qp) && decide (qp ≤ 40)) = true := by simp; omega
    rw [hd] at HI
    by_cases hp : 0 ≤ p ∧ p ≤ 15
    · obtain ⟨r, q, hr, hq, er, eq⟩ := qp_parts h
      have hk := kindF_in p hp
      have HB : Hid (pickF (kindF p) (shL.getD (3 * r) 0) (shL.getD (3 * r + 1) 0) (shL.getD (3 * r + 2) 0) = atT shL qp (kindF p)) := pick_at shL qp _ r hk er
      rw [shareF_pos qp p h hp]
      generalize atT shL qp (kindF p) = b at *
      generalize kindF p = kd at *
      obtain ⟨h0, h1⟩ := h
      clear hd hp eq hq
      rcases r_cases hr with rfl | rfl | rfl | rfl | rfl | rfl
      all_goals
        go_enter Tryd.func25, Tryd.ntmps25
        go_wp2_with fail
        refine HK.mono ?_
        rintro e w1 ⟨rfl, hw⟩
        subst w1
        go_wp2_with fail
        refine HI.mono ?_
        rintro e w1 ⟨rfl, hw⟩
        subst w1
        go_wp2_with fail
        refine (pick_to _ _ _ _ b w HB.out).mono ?_
        rintro e w1 ⟨rfl, hw⟩
        subst w1
        go_wp2
        go_ret
        exact ⟨rfl, rfl⟩
    · have e1 : shareF qp p = 0 := by unfold shareF; rw [if_neg (fun c => hp c.2)]
      rw [kindF_no p hp] at HK
      rw [e1]
      clear e1 hd h hp
      go_enter Tryd.func25, Tryd.ntmps25
      go_wp2_with fail
      refine HK.mono ?_
      rintro e w1 ⟨rfl, hw⟩
      subst w1
      go_wp2_with fail
      refine HI.mono ?_
      rintro e w1 ⟨rfl, hw⟩
      subst w1
      go_wp2
      go_ret
      exact ⟨rfl, rfl⟩
  · have hd : (decide (0 ≤ qp) && decide (qp ≤ 40)) = false := by simp; omega
    rw [hd] at HI
    have e1 : shareF qp p = 0 := by unfold shareF; rw [if_neg (fun c => h c.1)]
    rw [e1]
    generalize kindF p = kd at *
    clear hd e1 h
    go_enter Tryd.func25, Tryd.ntmps25
    go_wp2_with fail
    refine HK.mono ?_
    rintro e w1 ⟨rfl, hw⟩
    subst w1
    go_wp2_with fail
    refine HI.mono ?_
    rintro e w1 ⟨rfl, hw⟩
    subst w1
    go_wp2
    go_ret
    exact ⟨rfl, rfl⟩
end Go.Proofs.YtcfgnbiiegfenaaDoor
