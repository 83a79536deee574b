/-
  The walks of spec's steps: StepOf, KindOf, l08Pick, ScaleOf, ShareOf.
  The walks of spec.SmallLevel, SmallBack, LargeLevel and LargeBack.
-/
import Derived.Test.YtlejfkjanllgbaaDoorInKit
import Derived.Test.YtlejfkjanllgbaaDoorStepMath
import Derived.LoopTactic
namespace Go.Proofs.YtlejfkjanllgbaaDoor
open Go.RowKit
set_option linter.unusedVariables false
set_option maxRecDepth 20000

theorem two_step (b : Int) (k : Nat) : 2 * (b * 2 ^ k) = b * 2 ^ (k + 1) := by rw [Int.pow_succ]; rw [Int.mul_comm 2, Int.mul_assoc]
theorem two_le (k : Nat) (h : k ≤ 6) : (1 : Int) ≤ 2 ^ k ∧ (2 : Int) ^ k ≤ 64 := by
  rcases q_cases (show k < 7 by omega) with rfl | rfl | rfl | rfl | rfl | rfl | rfl <;> decide

set_option maxHeartbeats 400000 in
theorem specStepOf (qp : Int) (w : World) : Calls Tryd.prog 63 #[.int .i64 qp] w fun e w' => e = .returned (.int .i64 (stepF qp)) ∧ w' = w := by
  have HI := in_any qp 0 40 w
  by_cases h : 0 ≤ qp ∧ qp ≤ 40
  · have hd : (decide (0 ≤ qp) && decide (qp ≤ 40)) = true := by simp; omega
    rw [hd] at HI
    obtain ⟨r, q, hr, hq, er, eq⟩ := qp_parts h
    have e1 : stepF qp = atT scL qp 0 * 2 ^ q := by
      unfold stepF twoQ; rw [if_pos h, eq]; rfl
    have hB := atSc_in qp 0 h (by omega)
    have HB : Hid (scL.getD (3 * r) 0 = atT scL qp 0) := by show _ = atT scL qp 0; unfold atT; rw [er]; simp
    rw [e1]
    generalize atT scL qp 0 = b at *
    obtain ⟨h0, h1⟩ := h
    clear hd e1
    rcases r_cases hr with rfl | rfl | rfl | rfl | rfl | rfl
    all_goals
      go_enter Tryd.func63, Tryd.ntmps63
      go_wp2_with fail
      refine HI.mono ?_
      rintro e w1 ⟨rfl, hw⟩
      subst w1
      go_wp2
      go_loopw [3, 4] (fun v i wr => ∃ k : Nat, k ≤ q ∧ i = .int .i64 k ∧ v = .int .i64 (b * 2 ^ k) ∧ wr = w) (fun _ i _ => q - (intOf i).toNat)
      case atStart => exact ⟨0, Nat.zero_le _, rfl, by rw [← HB.out]; rfl, rfl⟩
      case round =>
        obtain ⟨k, hk, rfl, rfl, rfl⟩ := hrel
        have hp := two_le k (by omega)
        have hm := mul_in (A := 29) (B := 64) (show 0 ≤ b by omega) hB.2 (show (0 : Int) ≤ 2 ^ k by omega) hp.2
        have HS : Hid (2 * (b * 2 ^ k) = b * 2 ^ (k + 1)) := two_step b k
        by_cases hlt : k < q
        · have hlt' : (k : Int) < (q : Int) := by omega
          generalize b * 2 ^ k = m at *
          go_wp2
          go_roundw
          case rel => exact ⟨k + 1, by omega, by go_num, by rw [← HS.out], by first | rfl | trivial⟩
          case measure => simp [intOf]; omega
        · obtain rfl : k = q := by omega
          clear HS
          obtain ⟨m, HM⟩ : ∃ m, Hid (b * 2 ^ k = m) := ⟨_, rfl⟩
          rw [HM.out] at hm ⊢
          go_wp2
          go_ret
          exact ⟨by rw [HM.out]; rfl, rfl⟩
  · have hd : (decide (0 ≤ qp) && decide (qp ≤ 40)) = false := by simp; omega
    rw [hd] at HI
    have e1 : stepF qp = 0 := by unfold stepF; rw [if_neg h]
    rw [e1]
    clear hd e1 h
    go_enter Tryd.func63, Tryd.ntmps63
    go_wp2_with fail
    refine HI.mono ?_
    rintro e w1 ⟨rfl, hw⟩
    subst w1
    go_wp2
    go_ret
    exact ⟨rfl, rfl⟩
theorem specKindOf (p : Int) (w : World) : Calls Tryd.prog 92 #[.int .i64 p] w fun e w' => e = .returned (.int .i64 (kindF p)) ∧ w' = w := by
  have HI := in_any p 0 15 w
  by_cases h : 0 ≤ p ∧ p ≤ 15
  · have hd : (decide (0 ≤ p) && decide (p ≤ 15)) = true := by simp; omega
    rw [hd] at HI
    have e1 : kindF p = kdL.getD (2 * (p / 4 % 2).toNat + (p % 4 % 2).toNat) 0 := by unfold kindF; rw [if_pos h]
    have h1 : p / 4 % 2 = 0 ∨ p / 4 % 2 = 1 := by omega
    have h2 : p % 4 % 2 = 0 ∨ p % 4 % 2 = 1 := by omega
    obtain ⟨p0, p1⟩ := h
    clear hd
    rcases h1 with e | e <;> rcases h2 with f | f <;> rw [e, f] at e1
    all_goals
      rw [e1]
      clear e1
      go_enter Tryd.func92, Tryd.ntmps92
      go_wp2_with fail
      refine HI.mono ?_
      rintro e w1 ⟨rfl, hw⟩
      subst w1
      go_wp2
      go_ret
      exact ⟨rfl, rfl⟩
  · have hd : (decide (0 ≤ p) && decide (p ≤ 15)) = false := by simp; omega
    rw [hd] at HI
    rw [kindF_no p h]
    clear hd h
    go_enter Tryd.func92, Tryd.ntmps92
    go_wp2_with fail
    refine HI.mono ?_
    rintro e w1 ⟨rfl, hw⟩
    subst w1
    go_wp2
    go_ret
    exact ⟨rfl, rfl⟩
def pickF (k a b c : Int) : Int := if k = 0 then a else if k = 1 then b else c
theorem pick_to (k a b c m : Int) (w : World) (h : pickF k a b c = m) : Calls Tryd.prog 93 #[.int .i64 k, .int .i64 a, .int .i64 b, .int .i64 c] w fun e w' => e = .returned (.int .i64 m) ∧ w' = w := by
  subst h
  by_cases h0 : k = 0
  · subst h0
    go_enter Tryd.func93, Tryd.ntmps93
    go_wp2
    go_ret
    exact ⟨rfl, rfl⟩
  by_cases h1 : k = 1
  · subst h1
    go_enter Tryd.func93, Tryd.ntmps93
    go_wp2
    go_ret
    exact ⟨rfl, rfl⟩
  have e1 : pickF k a b c = c := by unfold pickF; rw [if_neg h0, if_neg h1]
  have b0 : (k == 0) = false := by simpa using h0
  have b1 : (k == 1) = false := by simpa using h1
  rw [e1]
  clear e1 h0 h1
  go_enter Tryd.func93, Tryd.ntmps93
  go_wp2
  go_ret
  exact ⟨rfl, rfl⟩
theorem pick_at (l : List Int) (qp k : Int) (r : Nat) (hk : 0 ≤ k ∧ k ≤ 2) (er : qp % 6 = r) : pickF k (l.getD (3 * r) 0) (l.getD (3 * r + 1) 0) (l.getD (3 * r + 2) 0) = atT l qp k := by
  unfold atT pickF
  rw [er]
  rcases k_cases hk with rfl | rfl | rfl <;> simp
set_option maxHeartbeats 800000 in
theorem specScaleOf (qp p : Int) (w : World) : Calls Tryd.prog 70 #[.int .i64 qp, .int .i64 p] w fun e w' => e = .returned (.int .i64 (scaleF qp p)) ∧ w' = w := by
  have HI := in_any qp 0 40 w
  have HK := specKindOf p w
  by_cases h : 0 ≤ qp ∧ qp ≤ 40
  · have hd : (decide (0 ≤ qp) && decide (qp ≤ 40)) = true := by simp; omega
    rw [hd] at HI
    by_cases hp : 0 ≤ p ∧ p ≤ 15
    · obtain ⟨r, q, hr, hq, er, eq⟩ := qp_parts h
      have hk := kindF_in p hp
      have hB := atSc_in qp (kindF p) h hk
      have HB : Hid (pickF (kindF p) (scL.getD (3 * r) 0) (scL.getD (3 * r + 1) 0) (scL.getD (3 * r + 2) 0) = atT scL qp (kindF p)) := pick_at scL qp _ r hk er
      have e1 : scaleF qp p = atT scL qp (kindF p) * 2 ^ q := by
        rw [scaleF_pos qp p h hp]; unfold twoQ; rw [eq]; rfl
      rw [e1]
      generalize atT scL qp (kindF p) = b at *
      generalize kindF p = kd at *
      obtain ⟨h0, h1⟩ := h
      clear hd e1 hp
      rcases r_cases hr with rfl | rfl | rfl | rfl | rfl | rfl
      all_goals
        go_enter Tryd.func70, Tryd.ntmps70
        go_wp2_with fail
        refine HK.mono ?_
        rintro e w1 ⟨rfl, hw⟩
        subst w1
        go_wp2_with fail
        refine HI.mono ?_
        rintro e w1 ⟨rfl, hw⟩
        subst w1
        go_wp2_with fail
        refine (pick_to _ _ _ _ b w HB.out).mono ?_
        rintro e w1 ⟨rfl, hw⟩
        subst w1
        go_wp2
        go_loopw [6, 7] (fun v i wr => ∃ k : Nat, k ≤ q ∧ i = .int .i64 k ∧ v = .int .i64 (b * 2 ^ k) ∧ wr = w) (fun _ i _ => q - (intOf i).toNat)
        case atStart => exact ⟨0, Nat.zero_le _, rfl, by simp, rfl⟩
        case round =>
          obtain ⟨k, hk, rfl, rfl, rfl⟩ := hrel
          have hp := two_le k (by omega)
          have hm := mul_in (A := 29) (B := 64) (show 0 ≤ b by omega) hB.2 (show (0 : Int) ≤ 2 ^ k by omega) hp.2
          have HS : Hid (2 * (b * 2 ^ k) = b * 2 ^ (k + 1)) := two_step b k
          by_cases hlt : k < q
          · have hlt' : (k : Int) < (q : Int) := by omega
            generalize b * 2 ^ k = m at *
            go_wp2
            go_roundw
            case rel => exact ⟨k + 1, by omega, by go_num, by rw [← HS.out], by first | rfl | trivial⟩
            case measure => simp [intOf]; omega
          · obtain rfl : k = q := by omega
            clear HS
            obtain ⟨m, HM⟩ : ∃ m, Hid (b * 2 ^ k = m) := ⟨_, rfl⟩
            rw [HM.out] at hm ⊢
            go_wp2
            go_ret
            exact ⟨by rw [HM.out]; rfl, rfl⟩
    · have e1 : scaleF qp p = 0 := by unfold scaleF; rw [if_neg (fun c => hp c.2)]
      rw [kindF_no p hp] at HK
      rw [e1]
      clear e1 hd h hp
      go_enter Tryd.func70, Tryd.ntmps70
      go_wp2_with fail
      refine HK.mono ?_
      rintro e w1 ⟨rfl, hw⟩
      subst w1
      go_wp2_with fail
      refine HI.mono ?_
      rintro e w1 ⟨rfl, hw⟩
      subst w1
      go_wp2
      go_ret
      exact ⟨rfl, rfl⟩
  · have hd : (decide (0 ≤ qp) && decide (qp ≤ 40)) = false := by simp; omega
    rw [hd] at HI
    have e1 : scaleF qp p = 0 := by unfold scaleF; rw [if_neg (fun c => h c.1)]
    rw [e1]
    generalize kindF p = kd at *
    clear hd e1 h
    go_enter Tryd.func70, Tryd.ntmps70
    go_wp2_with fail
    refine HK.mono ?_
    rintro e w1 ⟨rfl, hw⟩
    subst w1
    go_wp2_with fail
    refine HI.mono ?_
    rintro e w1 ⟨rfl, hw⟩
    subst w1
    go_wp2
    go_ret
    exact ⟨rfl, rfl⟩
set_option maxHeartbeats 800000 in
theorem specShareOf (qp p : Int) (w : World) : Calls Tryd.prog 68 #[.int .i64 qp, .int .i64 p] w fun e w' => e = .returned (.int .i64 (shareF qp p)) ∧ w' = w := by
  have HI := in_any qp 0 40 w
  have HK := specKindOf p w
  by_cases h : 0 ≤ qp ∧ qp ≤ 40
  · have hd : (decide (0 ≤ qp) && decide (qp ≤ 40)) = true := by simp; omega
    rw [hd] at HI
    by_cases hp : 0 ≤ p ∧ p ≤ 15
    · obtain ⟨r, q, hr, hq, er, eq⟩ := qp_parts h
      have hk := kindF_in p hp
      have HB : Hid (pickF (kindF p) (shL.getD (3 * r) 0) (shL.getD (3 * r + 1) 0) (shL.getD (3 * r + 2) 0) = atT shL qp (kindF p)) := pick_at shL qp _ r hk er
      rw [shareF_pos qp p h hp]
      generalize atT shL qp (kindF p) = b at *
      generalize kindF p = kd at *
      obtain ⟨h0, h1⟩ := h
      clear hd hp eq hq
      rcases r_cases hr with rfl | rfl | rfl | rfl | rfl | rfl
      all_goals
        go_enter Tryd.func68, Tryd.ntmps68
        go_wp2_with fail
        refine HK.mono ?_
        rintro e w1 ⟨rfl, hw⟩
        subst w1
        go_wp2_with fail
        refine HI.mono ?_
        rintro e w1 ⟨rfl, hw⟩
        subst w1
        go_wp2_with fail
        refine (pick_to _ _ _ _ b w HB.out).mono ?_
        rintro e w1 ⟨rfl, hw⟩
        subst w1
        go_wp2
        go_ret
        exact ⟨rfl, rfl⟩
    · have e1 : shareF qp p = 0 := by unfold shareF; rw [if_neg (fun c => hp c.2)]
      rw [kindF_no p hp] at HK
      rw [e1]
      clear e1 hd h hp
      go_enter Tryd.func68, Tryd.ntmps68
      go_wp2_with fail
      refine HK.mono ?_
      rintro e w1 ⟨rfl, hw⟩
      subst w1
      go_wp2_with fail
      refine HI.mono ?_
      rintro e w1 ⟨rfl, hw⟩
      subst w1
      go_wp2
      go_ret
      exact ⟨rfl, rfl⟩
  · have hd : (decide (0 ≤ qp) && decide (qp ≤ 40)) = false := by simp; omega
    rw [hd] at HI
    have e1 : shareF qp p = 0 := by unfold shareF; rw [if_neg (fun c => h c.1)]
    rw [e1]
    generalize kindF p = kd at *
    clear hd e1 h
    go_enter Tryd.func68, Tryd.ntmps68
    go_wp2_with fail
    refine HK.mono ?_
    rintro e w1 ⟨rfl, hw⟩
    subst w1
    go_wp2_with fail
    refine HI.mono ?_
    rintro e w1 ⟨rfl, hw⟩
    subst w1
    go_wp2
    go_ret
    exact ⟨rfl, rfl⟩
end Go.Proofs.YtlejfkjanllgbaaDoor

namespace Go.Proofs.YtlejfkjanllgbaaDoor
open Go.RowKit
set_option linter.unusedVariables false

theorem squo_in {a m : Int} (ha : 0 ≤ a ∧ a ≤ 1000000000) (hm : 1 ≤ m) : 0 ≤ a / m ∧ a / m ≤ 1000000000 := by
  have : a / m ≤ a := Int.ediv_le_self _ ha.1
  exact ⟨Int.ediv_nonneg ha.1 (by omega), by omega⟩
theorem sized_any (x : Int) (w : World) (h : -20000 ≤ x ∧ x ≤ 20000) : Calls Tryd.prog 65 #[.int .i64 x] w fun e w' => e = .returned (.int .i64 (absF x)) ∧ w' = w := by
  obtain ⟨h0, h1⟩ := h
  by_cases c : x < 0
  · have HF : Hid (absF x = -x) := by show absF x = _; unfold absF; rw [if_pos c]
    go_enter Tryd.func65, Tryd.ntmps65
    go_wp2
    go_ret
    exact ⟨by rw [HF.out]; rfl, rfl⟩
  · have HF : Hid (absF x = x) := by show absF x = _; unfold absF; rw [if_neg c]
    go_enter Tryd.func65, Tryd.ntmps65
    go_wp2
    go_ret
    exact ⟨by rw [HF.out]; rfl, rfl⟩
theorem ssigned_any (x n : Int) (w : World) (h : 0 ≤ n ∧ n ≤ 1000000) : Calls Tryd.prog 64 #[.int .i64 x, .int .i64 n] w fun e w' => e = .returned (.int .i64 (sgnF x n)) ∧ w' = w := by
  obtain ⟨h0, h1⟩ := h
  by_cases c : x < 0
  · have HF : Hid (sgnF x n = -n) := by show sgnF x n = _; unfold sgnF; rw [if_pos c]
    go_enter Tryd.func64, Tryd.ntmps64
    go_wp2
    go_ret
    exact ⟨by rw [HF.out]; rfl, rfl⟩
  · have HF : Hid (sgnF x n = n) := by show sgnF x n = _; unfold sgnF; rw [if_neg c]
    go_enter Tryd.func64, Tryd.ntmps64
    go_wp2
    go_ret
    exact ⟨by rw [HF.out]; rfl, rfl⟩
theorem specSmallBack (l qp p : Int) (w : World) : Calls Tryd.prog 44 #[.int .i64 l, .int .i64 qp, .int .i64 p] w fun e w' => e = .returned (.int .i64 (smallB l qp p)) ∧ w' = w := by
  have HS := specScaleOf qp p w
  have hb := scaleF_all qp p
  have HL := in_any l (-5000) 5000 w
  unfold smallB
  by_cases h : -5000 ≤ l ∧ l ≤ 5000
  · have hd : (decide (-5000 ≤ l) && decide (l ≤ 5000)) = true := by simp; omega
    rw [hd] at HL
    rw [if_pos h]
    generalize scaleF qp p = m at *
    have hm : -10000000 ≤ l * m ∧ l * m ≤ 10000000 := by
      have a := Int.mul_le_mul_of_nonneg_right h.2 hb.1
      have b := Int.mul_le_mul_of_nonneg_right h.1 hb.1
      omega
    clear hd h hb
    go_enter Tryd.func44, Tryd.ntmps44
    go_wp2_with fail
    refine HL.mono ?_
    rintro e w1 ⟨rfl, hw⟩
    subst w1
    go_wp2_with fail
    refine HS.mono ?_
    rintro e w1 ⟨rfl, hw⟩
    subst w1
    go_wp2
    go_ret
    exact ⟨rfl, rfl⟩
  · have hd : (decide (-5000 ≤ l) && decide (l ≤ 5000)) = false := by simp; omega
    rw [hd] at HL
    rw [if_neg h]
    clear hd h hb
    go_enter Tryd.func44, Tryd.ntmps44
    go_wp2_with fail
    refine HL.mono ?_
    rintro e w1 ⟨rfl, hw⟩
    subst w1
    go_wp2
    go_ret
    exact ⟨rfl, rfl⟩
theorem specLargeBack (l qp : Int) (w : World) : Calls Tryd.prog 42 #[.int .i64 l, .int .i64 qp] w fun e w' => e = .returned (.int .i64 (largeB l qp)) ∧ w' = w := by
  have HS := specStepOf qp w
  have hb := stepF_all qp
  have HL := in_any l (-5000) 5000 w
  unfold largeB
  by_cases h : -5000 ≤ l ∧ l ≤ 5000
  · have hd : (decide (-5000 ≤ l) && decide (l ≤ 5000)) = true := by simp; omega
    rw [hd] at HL
    rw [if_pos h]
    generalize stepF qp = m at *
    have hm : -10000000 ≤ l * m ∧ l * m ≤ 10000000 := by
      have a := Int.mul_le_mul_of_nonneg_right h.2 hb.1
      have b := Int.mul_le_mul_of_nonneg_right h.1 hb.1
      omega
    clear hd h hb
    go_enter Tryd.func42, Tryd.ntmps42
    go_wp2_with fail
    refine HL.mono ?_
    rintro e w1 ⟨rfl, hw⟩
    subst w1
    go_wp2_with fail
    refine HS.mono ?_
    rintro e w1 ⟨rfl, hw⟩
    subst w1
    go_wp2
    go_ret
    exact ⟨rfl, rfl⟩
  · have hd : (decide (-5000 ≤ l) && decide (l ≤ 5000)) = false := by simp; omega
    rw [hd] at HL
    rw [if_neg h]
    clear hd h hb
    go_enter Tryd.func42, Tryd.ntmps42
    go_wp2_with fail
    refine HL.mono ?_
    rintro e w1 ⟨rfl, hw⟩
    subst w1
    go_wp2
    go_ret
    exact ⟨rfl, rfl⟩
theorem specLargeLevel (x qp : Int) (w : World) : Calls Tryd.prog 37 #[.int .i64 x, .int .i64 qp] w fun e w' => e = .returned (.int .i64 (largeF x qp)) ∧ w' = w := by
  have HT := in_any x (-20000) 20000 w
  have HA := in_any qp 0 40 w
  by_cases hx : -20000 ≤ x ∧ x ≤ 20000
  · have hd : (decide (-20000 ≤ x) && decide (x ≤ 20000)) = true := by simp; omega
    rw [hd] at HT
    by_cases h : 0 ≤ qp ∧ qp ≤ 40
    · have hd2 : (decide (0 ≤ qp) && decide (qp ≤ 40)) = true := by simp; omega
      rw [hd2] at HA
      have HL := specStepOf qp w
      have HW := sized_any x w hx
      have hb := stepF_in qp h
      have ha := absF_in x hx
      have e1 : largeF x qp = sgnF x ((absF x + stepF qp / 2) / stepF qp) := by unfold largeF; rw [if_pos ⟨hx, h⟩]
      rw [e1]
      generalize stepF qp = m at *
      generalize absF x = y at *
      have hq := squo_in (a := y + m / 2) (m := m) (by omega) (by omega)
      have hq2 : (y + m / 2) / m ≤ 1000000 := Int.le_trans (Int.ediv_le_self _ (by omega)) (by omega)
      have HS := ssigned_any x ((y + m / 2) / m) w ⟨hq.1, hq2⟩
      have hm0 : ¬ m = 0 := by omega
      clear e1 hd hd2 h hx
      go_enter Tryd.func37, Tryd.ntmps37
      go_wp2_with fail
      refine HT.mono ?_
      rintro e w1 ⟨rfl, hw⟩
      subst w1
      go_wp2_with fail
      refine HA.mono ?_
      rintro e w1 ⟨rfl, hw⟩
      subst w1
      go_wp2_with fail
      refine HL.mono ?_
      rintro e w1 ⟨rfl, hw⟩
      subst w1
      go_wp2_with fail
      refine HW.mono ?_
      rintro e w1 ⟨rfl, hw⟩
      subst w1
      go_wp2_with fail
      refine HS.mono ?_
      rintro e w1 ⟨rfl, hw⟩
      subst w1
      go_wp2
      go_ret
      exact ⟨rfl, rfl⟩
    · have hd2 : (decide (0 ≤ qp) && decide (qp ≤ 40)) = false := by simp; omega
      rw [hd2] at HA
      have e1 : largeF x qp = 0 := by unfold largeF; rw [if_neg (fun c => h c.2)]
      rw [e1]
      clear e1 hd hd2 h hx
      go_enter Tryd.func37, Tryd.ntmps37
      go_wp2_with fail
      refine HT.mono ?_
      rintro e w1 ⟨rfl, hw⟩
      subst w1
      go_wp2_with fail
      refine HA.mono ?_
      rintro e w1 ⟨rfl, hw⟩
      subst w1
      go_wp2
      go_ret
      exact ⟨rfl, rfl⟩
  · have hd : (decide (-20000 ≤ x) && decide (x ≤ 20000)) = false := by simp; omega
    rw [hd] at HT
    have e1 : largeF x qp = 0 := by unfold largeF; rw [if_neg (fun c => hx c.1)]
    rw [e1]
    clear e1 hd hx
    go_enter Tryd.func37, Tryd.ntmps37
    go_wp2_with fail
    refine HT.mono ?_
    rintro e w1 ⟨rfl, hw⟩
    subst w1
    go_wp2
    go_ret
    exact ⟨rfl, rfl⟩
set_option maxHeartbeats 1600000 in
theorem specSmallLevel (x qp p : Int) (w : World) : Calls Tryd.prog 40 #[.int .i64 x, .int .i64 qp, .int .i64 p] w fun e w' => e = .returned (.int .i64 (smallF x qp p)) ∧ w' = w := by
  have HT := in_any x (-20000) 20000 w
  have HA := in_any qp 0 40 w
  have HP := in_any p 0 15 w
  by_cases hx : -20000 ≤ x ∧ x ≤ 20000
  · have hd : (decide (-20000 ≤ x) && decide (x ≤ 20000)) = true := by simp; omega
    rw [hd] at HT
    by_cases h : 0 ≤ qp ∧ qp ≤ 40
    · have hd2 : (decide (0 ≤ qp) && decide (qp ≤ 40)) = true := by simp; omega
      rw [hd2] at HA
      by_cases hp : 0 ≤ p ∧ p ≤ 15
      · have hd3 : (decide (0 ≤ p) && decide (p ≤ 15)) = true := by simp; omega
        rw [hd3] at HP
        have HW := sized_any x w hx
        have HL := specShareOf qp p w
        have ha := absF_in x hx
        have hc := shareF_in qp p h hp
        have ht := twoQ_in qp h
        obtain ⟨r, q, hr, hq, er, eq⟩ := qp_parts h
        have e1 : smallF x qp p = sgnF x ((absF x * shareF qp p + 32768 * 2 ^ q / 3) / (32768 * 2 ^ q)) := by
          have e2 : twoQ qp = 2 ^ q := by unfold twoQ; rw [eq]; rfl
          unfold smallF; rw [if_pos ⟨hx, h, hp⟩, e2]
        rw [e1]
        have e3 : twoQ qp = 2 ^ q := by unfold twoQ; rw [eq]; rfl
        rw [e3] at ht
        generalize shareF qp p = s at *
        generalize absF x = y at *
        have hys := mul_in (A := 20000) (B := 13107) ha.1 ha.2 (show 0 ≤ s by omega) hc.2
        obtain ⟨h0, h1⟩ := h
        have HS : Hid (∀ n, 0 ≤ n ∧ n ≤ 1000000 → Calls Tryd.prog 64 #[.int .i64 x, .int .i64 n] w fun e w' => e = .returned (.int .i64 (sgnF x n)) ∧ w' = w) := fun n hn => ssigned_any x n w hn
        clear e1 e3 hd hd2 hd3 hx hp er hr
        rcases q_cases hq with rfl | rfl | rfl | rfl | rfl | rfl | rfl
        all_goals
          clear ht hq
          simp only [Int.reducePow, Int.reduceMul, Int.reduceDiv]
          go_enter Tryd.func40, Tryd.ntmps40
          go_wp2_with fail
          refine HT.mono ?_
          rintro e w1 ⟨rfl, hw⟩
          subst w1
          go_wp2_with fail
          refine HA.mono ?_
          rintro e w1 ⟨rfl, hw⟩
          subst w1
          go_wp2_with fail
          refine HP.mono ?_
          rintro e w1 ⟨rfl, hw⟩
          subst w1
          go_wp2_with fail
          refine HW.mono ?_
          rintro e w1 ⟨rfl, hw⟩
          subst w1
          go_wp2_with fail
          refine HL.mono ?_
          rintro e w1 ⟨rfl, hw⟩
          subst w1
          go_wp2_with fail
          refine (HS.out _ ⟨by omega, by omega⟩).mono ?_
          rintro e w1 ⟨rfl, hw⟩
          subst w1
          go_wp2
          go_ret
          exact ⟨rfl, rfl⟩
      · have hd3 : (decide (0 ≤ p) && decide (p ≤ 15)) = false := by simp; omega
        rw [hd3] at HP
        have e1 : smallF x qp p = 0 := by unfold smallF; rw [if_neg (fun c => hp c.2.2)]
        rw [e1]
        clear e1 hd hd2 hd3 h hx hp
        go_enter Tryd.func40, Tryd.ntmps40
        go_wp2_with fail
        refine HT.mono ?_
        rintro e w1 ⟨rfl, hw⟩
        subst w1
        go_wp2_with fail
        refine HA.mono ?_
        rintro e w1 ⟨rfl, hw⟩
        subst w1
        go_wp2_with fail
        refine HP.mono ?_
        rintro e w1 ⟨rfl, hw⟩
        subst w1
        go_wp2
        go_ret
        exact ⟨rfl, rfl⟩
    · have hd2 : (decide (0 ≤ qp) && decide (qp ≤ 40)) = false := by simp; omega
      rw [hd2] at HA
      have e1 : smallF x qp p = 0 := by unfold smallF; rw [if_neg (fun c => h c.2.1)]
      rw [e1]
      clear e1 hd hd2 h hx
      go_enter Tryd.func40, Tryd.ntmps40
      go_wp2_with fail
      refine HT.mono ?_
      rintro e w1 ⟨rfl, hw⟩
      subst w1
      go_wp2_with fail
      refine HA.mono ?_
      rintro e w1 ⟨rfl, hw⟩
      subst w1
      go_wp2
      go_ret
      exact ⟨rfl, rfl⟩
  · have hd : (decide (-20000 ≤ x) && decide (x ≤ 20000)) = false := by simp; omega
    rw [hd] at HT
    have e1 : smallF x qp p = 0 := by unfold smallF; rw [if_neg (fun c => hx c.1)]
    rw [e1]
    clear e1 hd hx
    go_enter Tryd.func40, Tryd.ntmps40
    go_wp2_with fail
    refine HT.mono ?_
    rintro e w1 ⟨rfl, hw⟩
    subst w1
    go_wp2
    go_ret
    exact ⟨rfl, rfl⟩
end Go.Proofs.YtlejfkjanllgbaaDoor
