/-
  The walks of spec.SmallLevel, SmallBack, LargeLevel and LargeBack.
-/
import Derived.Test.YtcfgnbiiegfenaaDoorStepSpec
namespace Go.Proofs.YtcfgnbiiegfenaaDoor
open Go.RowKit
set_option linter.unusedVariables false
set_option maxRecDepth 20000

theorem squo_in {a m : Int} (ha : 0 ≤ a ∧ a ≤ 1000000000) (hm : 1 ≤ m) : 0 ≤ a / m ∧ a / m ≤ 1000000000 := by
  have : a / m ≤ a := Int.ediv_le_self _ ha.1
  exact ⟨Int.ediv_nonneg ha.1 (by omega), by omega⟩
theorem sized_any (x : Int) (w : World) (h : -20000 ≤ x ∧ x ≤ 20000) : Calls Tryd.prog 46 #[.int .i64 x] w fun e w' => e = .returned (.int .i64 (absF x)) ∧ w' = w := by
  obtain ⟨h0, h1⟩ := h
  by_cases c : x < 0
  · have HF : Hid (absF x = -x) := by show absF x = _; unfold absF; rw [if_pos c]
    go_enter Tryd.func46, Tryd.ntmps46
    go_wp2
    go_ret
    exact ⟨by rw [HF.out]; rfl, rfl⟩
  · have HF : Hid (absF x = x) := by show absF x = _; unfold absF; rw [if_neg c]
    go_enter Tryd.func46, Tryd.ntmps46
    go_wp2
    go_ret
    exact ⟨by rw [HF.out]; rfl, rfl⟩
theorem ssigned_any (x n : Int) (w : World) (h : 0 ≤ n ∧ n ≤ 1000000) : Calls Tryd.prog 45 #[.int .i64 x, .int .i64 n] w fun e w' => e = .returned (.int .i64 (sgnF x n)) ∧ w' = w := by
  obtain ⟨h0, h1⟩ := h
  by_cases c : x < 0
  · have HF : Hid (sgnF x n = -n) := by show sgnF x n = _; unfold sgnF; rw [if_pos c]
    go_enter Tryd.func45, Tryd.ntmps45
    go_wp2
    go_ret
    exact ⟨by rw [HF.out]; rfl, rfl⟩
  · have HF : Hid (sgnF x n = n) := by show sgnF x n = _; unfold sgnF; rw [if_neg c]
    go_enter Tryd.func45, Tryd.ntmps45
    go_wp2
    go_ret
    exact ⟨by rw [HF.out]; rfl, rfl⟩
theorem specSmallBack (l qp p : Int) (w : World) : Calls Tryd.prog 27 #[.int .i64 l, .int .i64 qp, .int .i64 p] w fun e w' => e = .returned (.int .i64 (smallB l qp p)) ∧ w' = w := by
  have HS := specScaleOf qp p w
  have hb := scaleF_all qp p
  have HL := in_any l (-5000) 5000 w
  unfold smallB
  by_cases h : -5000 ≤ l ∧ l ≤ 5000
  · have hd : (decide (-5000 ≤ l) && decide (l ≤ 5000)) = true := by simp; omega
    rw [hd] at HL
    rw [if_pos h]
    generalize scaleF qp p = m at *
    have hm : -10000000 ≤ l * m ∧ l * m ≤ 10000000 := by
      have a := Int.mul_le_mul_of_nonneg_right h.2 hb.1
      have b := Int.mul_le_mul_of_nonneg_right h.1 hb.1
      omega
    clear hd h hb
    go_enter Tryd.func27, Tryd.ntmps27
    go_wp2_with fail
    refine HL.mono ?_
    rintro e w1 ⟨rfl, hw⟩
    subst w1
    go_wp2_with fail
    refine HS.mono ?_
    rintro e w1 ⟨rfl, hw⟩
    subst w1
    go_wp2
    go_ret
    exact ⟨rfl, rfl⟩
  · have hd : (decide (-5000 ≤ l) && decide (l ≤ 5000)) = false := by simp; omega
    rw [hd] at HL
    rw [if_neg h]
    clear hd h hb
    go_enter Tryd.func27, Tryd.ntmps27
    go_wp2_with fail
    refine HL.mono ?_
    rintro e w1 ⟨rfl, hw⟩
    subst w1
    go_wp2
    go_ret
    exact ⟨rfl, rfl⟩
theorem specLargeBack (l qp : Int) (w : World) : Calls Tryd.prog 30 #[.int .i64 l, .int .i64 qp] w fun e w' => e = .returned (.int .i64 (largeB l qp)) ∧ w' = w := by
  have HS := specStepOf qp w
  have hb := stepF_all qp
  have HL := in_any l (-5000) 5000 w
  unfold largeB
  by_cases h : -5000 ≤ l ∧ l ≤ 5000
  · have hd : (decide (-5000 ≤ l) && decide (l ≤ 5000)) = true := by simp; omega
    rw [hd] at HL
    rw [if_pos h]
    generalize stepF qp = m at *
    have hm : -10000000 ≤ l * m ∧ l * m ≤ 10000000 := by
      have a := Int.mul_le_mul_of_nonneg_right h.2 hb.1
      have b := Int.mul_le_mul_of_nonneg_right h.1 hb.1
      omega
    clear hd h hb
    go_enter Tryd.func30, Tryd.ntmps30
    go_wp2_with fail
    refine HL.mono ?_
    rintro e w1 ⟨rfl, hw⟩
    subst w1
    go_wp2_with fail
    refine HS.mono ?_
    rintro e w1 ⟨rfl, hw⟩
    subst w1
    go_wp2
    go_ret
    exact ⟨rfl, rfl⟩
  · have hd : (decide (-5000 ≤ l) && decide (l ≤ 5000)) = false := by simp; omega
    rw [hd] at HL
    rw [if_neg h]
    clear hd h hb
    go_enter Tryd.func30, Tryd.ntmps30
    go_wp2_with fail
    refine HL.mono ?_
    rintro e w1 ⟨rfl, hw⟩
    subst w1
    go_wp2
    go_ret
    exact ⟨rfl, rfl⟩
theorem specLargeLevel (x qp : Int) (w : World) : Calls Tryd.prog 29 #[.int .i64 x, .int .i64 qp] w fun e w' => e = .returned (.int .i64 (largeF x qp)) ∧ w' = w := by
  have HT := in_any x (-20000) 20000 w
  have HA := in_any qp 0 40 w
  by_cases hx : -20000 ≤ x ∧ x ≤ 20000
  · have hd : (decide (-20000 ≤ x) && decide (x ≤ 20000)) = true := by simp; omega
    rw [hd] at HT
    by_cases h : 0 ≤ qp ∧ qp ≤ 40
    · have hd2 : (decide (0 ≤ qp) && decide (qp ≤ 40)) = true := by simp; omega
      rw [hd2] at HA
      have HL := specStepOf qp w
      have HW := sized_any x w hx
      have hb := stepF_in qp h
      have ha := absF_in x hx
      have e1 : largeF x qp = sgnF x ((absF x + stepF qp / 2) / stepF qp) := by unfold largeF; rw [if_pos ⟨hx, h⟩]
      rw [e1]
      generalize stepF qp = m at *
      generalize absF x = y at *
      have hq := squo_in (a := y + m / 2) (m := m) (by omega) (by omega)
      have hq2 : (y + m / 2) / m ≤ 1000000 := Int.le_trans (Int.ediv_le_self _ (by omega)) (by omega)
      have HS := ssigned_any x ((y + m / 2) / m) w ⟨hq.1, hq2⟩
      have hm0 : ¬ m = 0 := by omega
      clear e1 hd hd2 h hx
      go_enter Tryd.func29, Tryd.ntmps29
      go_wp2_with fail
      refine HT.mono ?_
      rintro e w1 ⟨rfl, hw⟩
      subst w1
      go_wp2_with fail
      refine HA.mono ?_
      rintro e w1 ⟨rfl, hw⟩
      subst w1
      go_wp2_with fail
      refine HL.mono ?_
      rintro e w1 ⟨rfl, hw⟩
      subst w1
      go_wp2_with fail
      refine HW.mono ?_
      rintro e w1 ⟨rfl, hw⟩
      subst w1
      go_wp2_with fail
      refine HS.mono ?_
      rintro e w1 ⟨rfl, hw⟩
      subst w1
      go_wp2
      go_ret
      exact ⟨rfl, rfl⟩
    · have hd2 : (decide (0 ≤ qp) && decide (qp ≤ 40)) = false := by simp; omega
      rw [hd2] at HA
      have e1 : largeF x qp = 0 := by unfold largeF; rw [if_neg (fun c => h c.2)]
      rw [e1]
      clear e1 hd hd2 h hx
      go_enter Tryd.func29, Tryd.ntmps29
      go_wp2_with fail
      refine HT.mono ?_
      rintro e w1 ⟨rfl, hw⟩
      subst w1
      go_wp2_with fail
      refine HA.mono ?_
      rintro e w1 ⟨rfl, hw⟩
      subst w1
      go_wp2
      go_ret
      exact ⟨rfl, rfl⟩
  · have hd : (decide (-20000 ≤ x) && decide (x ≤ 20000)) = false := by simp; omega
    rw [hd] at HT
    have e1 : largeF x qp = 0 := by unfold largeF; rw [if_neg (fun c => hx c.1)]
    rw [e1]
    clear e1 hd hx
    go_enter Tryd.func29, Tryd.ntmps29
    go_wp2_with fail
    refine HT.mono ?_
    rintro e w1 ⟨rfl, hw⟩
    subst w1
    go_wp2
    go_ret
    exact ⟨rfl, rfl⟩
set_option maxHeartbeats 1600000 in
theorem specSmallLevel (x qp p : Int) (w : World) : Calls Tryd.prog 26 #[.int .i64 x, .int .i64 qp, .int .i64 p] w fun e w' => e = .returned (.int .i64 (smallF x qp p)) ∧ w' = w := by
  have HT := in_any x (-20000) 20000 w
  have HA := in_any qp 0 40 w
  have HP := in_any p 0 15 w
  by_cases hx : -20000 ≤ x ∧ x ≤ 20000
  · have hd : (decide (-20000 ≤ x) && decide (x ≤ 20000)) = true := by simp; omega
    rw [hd] at HT
    by_cases h : 0 ≤ qp ∧ qp ≤ 40
    · have hd2 : (decide (0 ≤ qp) && decide (qp ≤ 40)) = true := by simp; omega
      rw [hd2] at HA
      by_cases hp : 0 ≤ p ∧ p ≤ 15
      · have hd3 : (decide (0 ≤ p) && decide (p ≤ 15)) = true := by simp; omega
        rw [hd3] at HP
        have HW := sized_any x w hx
        have HL := specShareOf qp p w
        have ha := absF_in x hx
        have hc := shareF_in qp p h hp
        have ht := twoQ_in qp h
        obtain ⟨r, q, hr, hq, er, eq⟩ := qp_parts h
        have e1 : smallF x qp p = sgnF x ((absF x * shareF qp p + 32768 * 2 ^ q / 3) / (32768 * 2 ^ q)) := by
          have e2 : twoQ qp = 2 ^ q := by unfold twoQ; rw [eq]; rfl
          unfold smallF; rw [if_pos ⟨hx, h, hp⟩, e2]
        rw [e1]
        have e3 : twoQ qp = 2 ^ q := by unfold twoQ; rw [eq]; rfl
        rw [e3] at ht
        generalize shareF qp p = s at *
        generalize absF x = y at *
        have hys := mul_in (A := 20000) (B := 13107) ha.1 ha.2 (show 0 ≤ s by omega) hc.2
        obtain ⟨h0, h1⟩ := h
        have HS : Hid (∀ n, 0 ≤ n ∧ n ≤ 1000000 → Calls Tryd.prog 45 #[.int .i64 x, .int .i64 n] w fun e w' => e = .returned (.int .i64 (sgnF x n)) ∧ w' = w) := fun n hn => ssigned_any x n w hn
        clear e1 e3 hd hd2 hd3 hx hp er hr
        rcases q_cases hq with rfl | rfl | rfl | rfl | rfl | rfl | rfl
        all_goals
          clear ht hq
          simp only [Int.reducePow, Int.reduceMul, Int.reduceDiv]
          go_enter Tryd.func26, Tryd.ntmps26
          go_wp2_with fail
          refine HT.mono ?_
          rintro e w1 ⟨rfl, hw⟩
          subst w1
          go_wp2_with fail
          refine HA.mono ?_
          rintro e w1 ⟨rfl, hw⟩
          subst w1
          go_wp2_with fail
          refine HP.mono ?_
          rintro e w1 ⟨rfl, hw⟩
          subst w1
          go_wp2_with fail
          refine HW.mono ?_
          rintro e w1 ⟨rfl, hw⟩
          subst w1
          go_wp2_with fail
          refine HL.mono ?_
          rintro e w1 ⟨rfl, hw⟩
          subst w1
          go_wp2_with fail
          refine (HS.out _ ⟨by omega, by omega⟩).mono ?_
          rintro e w1 ⟨rfl, hw⟩
          subst w1
          go_wp2
          go_ret
          exact ⟨rfl, rfl⟩
      · have hd3 : (decide (0 ≤ p) && decide (p ≤ 15)) = false := by simp; omega
        rw [hd3] at HP
        have e1 : smallF x qp p = 0 := by unfold smallF; rw [if_neg (fun c => hp c.2.2)]
        rw [e1]
        clear e1 hd hd2 hd3 h hx hp
        go_enter Tryd.func26, Tryd.ntmps26
        go_wp2_with fail
        refine HT.mono ?_
        rintro e w1 ⟨rfl, hw⟩
        subst w1
        go_wp2_with fail
        refine HA.mono ?_
        rintro e w1 ⟨rfl, hw⟩
        subst w1
        go_wp2_with fail
        refine HP.mono ?_
        rintro e w1 ⟨rfl, hw⟩
        subst w1
        go_wp2
        go_ret
        exact ⟨rfl, rfl⟩
    · have hd2 : (decide (0 ≤ qp) && decide (qp ≤ 40)) = false := by simp; omega
      rw [hd2] at HA
      have e1 : smallF x qp p = 0 := by unfold smallF; rw [if_neg (fun c => h c.2.1)]
      rw [e1]
      clear e1 hd hd2 h hx
      go_enter Tryd.func26, Tryd.ntmps26
      go_wp2_with fail
      refine HT.mono ?_
      rintro e w1 ⟨rfl, hw⟩
      subst w1
      go_wp2_with fail
      refine HA.mono ?_
      rintro e w1 ⟨rfl, hw⟩
      subst w1
      go_wp2
      go_ret
      exact ⟨rfl, rfl⟩
  · have hd : (decide (-20000 ≤ x) && decide (x ≤ 20000)) = false := by simp; omega
    rw [hd] at HT
    have e1 : smallF x qp p = 0 := by unfold smallF; rw [if_neg (fun c => hx c.1)]
    rw [e1]
    clear e1 hd hx
    go_enter Tryd.func26, Tryd.ntmps26
    go_wp2_with fail
    refine HT.mono ?_
    rintro e w1 ⟨rfl, hw⟩
    subst w1
    go_wp2
    go_ret
    exact ⟨rfl, rfl⟩
end Go.Proofs.YtcfgnbiiegfenaaDoor
