/-
  The walks of impl.ScaleOf, ShareOf, SmallLevel, SmallBack, LargeLevel and LargeBack.
-/
import Derived.Test.YtcfgnbiiegfenaaDoorStepImpl
namespace Go.Proofs.YtcfgnbiiegfenaaDoor
open Go.RowKit
set_option linter.unusedVariables false
set_option maxRecDepth 20000

theorem kind_is (p : Int) (h : 0 ≤ p ∧ p ≤ 15) : (kindF p == -1) = false := by have := kindF_in p h; rw [beq_eq_false_iff_ne]; omega
theorem implScaleOf (qp p : Int) (w : World) (hs : TabC w 2 scL) (hk : TabC w 0 kdL) : Calls Tryd.prog 19 #[.int .i64 qp, .int .i64 p] w fun e w' => e = .returned (.int .i64 (scaleF qp p)) ∧ w' = w := by
  have HK := implKindOf p w hk
  by_cases h : 0 ≤ qp ∧ qp ≤ 40
  · have HA := stepAt_ok qp w h
    by_cases hp : 0 ≤ p ∧ p ≤ 15
    · have HS := scale_any qp _ w h (kindF_in p hp) hs
      have hb := kind_is p hp
      rw [scaleF_pos qp p h hp]
      generalize atT scL qp (kindF p) * twoQ qp = m at *
      generalize kindF p = k at *
      clear hs hk h hp
      go_enter Tryd.func19, Tryd.ntmps19
      go_wp2_with fail
      refine HA.mono ?_
      rintro e w1 ⟨rfl, hw⟩
      subst w1
      go_wp2_with fail
      refine HK.mono ?_
      rintro e w1 ⟨rfl, hw⟩
      subst w1
      go_wp2_with fail
      refine HS.mono ?_
      rintro e w1 ⟨rfl, hw⟩
      subst w1
      go_wp2
      go_ret
      exact ⟨rfl, rfl⟩
    · have e1 : scaleF qp p = 0 := by unfold scaleF; rw [if_neg (fun c => hp c.2)]
      rw [kindF_no p hp] at HK
      rw [e1]
      clear hs hk h hp e1
      go_enter Tryd.func19, Tryd.ntmps19
      go_wp2_with fail
      refine HA.mono ?_
      rintro e w1 ⟨rfl, hw⟩
      subst w1
      go_wp2_with fail
      refine HK.mono ?_
      rintro e w1 ⟨rfl, hw⟩
      subst w1
      go_wp2
      go_ret
      exact ⟨rfl, rfl⟩
  · have HA := stepAt_no qp w h
    have e1 : scaleF qp p = 0 := by unfold scaleF; rw [if_neg (fun c => h c.1)]
    rw [e1]
    generalize kindF p = k at *
    clear hs hk h e1
    go_enter Tryd.func19, Tryd.ntmps19
    go_wp2_with fail
    refine HA.mono ?_
    rintro e w1 ⟨rfl, hw⟩
    subst w1
    go_wp2_with fail
    refine HK.mono ?_
    rintro e w1 ⟨rfl, hw⟩
    subst w1
    go_wp2
    go_ret
    exact ⟨rfl, rfl⟩
theorem implShareOf (qp p : Int) (w : World) (hs : TabC w 1 shL) (hk : TabC w 0 kdL) : Calls Tryd.prog 20 #[.int .i64 qp, .int .i64 p] w fun e w' => e = .returned (.int .i64 (shareF qp p)) ∧ w' = w := by
  have HK := implKindOf p w hk
  by_cases h : 0 ≤ qp ∧ qp ≤ 40
  · have HA := stepAt_ok qp w h
    by_cases hp : 0 ≤ p ∧ p ≤ 15
    · have HS := share_any qp _ w h (kindF_in p hp) hs
      have hb := kind_is p hp
      rw [shareF_pos qp p h hp]
      generalize atT shL qp (kindF p) = m at *
      generalize kindF p = k at *
      clear hs hk h hp
      go_enter Tryd.func20, Tryd.ntmps20
      go_wp2_with fail
      refine HA.mono ?_
      rintro e w1 ⟨rfl, hw⟩
      subst w1
      go_wp2_with fail
      refine HK.mono ?_
      rintro e w1 ⟨rfl, hw⟩
      subst w1
      go_wp2_with fail
      refine HS.mono ?_
      rintro e w1 ⟨rfl, hw⟩
      subst w1
      go_wp2
      go_ret
      exact ⟨rfl, rfl⟩
    · have e1 : shareF qp p = 0 := by unfold shareF; rw [if_neg (fun c => hp c.2)]
      rw [kindF_no p hp] at HK
      rw [e1]
      clear hs hk h hp e1
      go_enter Tryd.func20, Tryd.ntmps20
      go_wp2_with fail
      refine HA.mono ?_
      rintro e w1 ⟨rfl, hw⟩
      subst w1
      go_wp2_with fail
      refine HK.mono ?_
      rintro e w1 ⟨rfl, hw⟩
      subst w1
      go_wp2
      go_ret
      exact ⟨rfl, rfl⟩
  · have HA := stepAt_no qp w h
    have e1 : shareF qp p = 0 := by unfold shareF; rw [if_neg (fun c => h c.1)]
    rw [e1]
    generalize kindF p = k at *
    clear hs hk h e1
    go_enter Tryd.func20, Tryd.ntmps20
    go_wp2_with fail
    refine HA.mono ?_
    rintro e w1 ⟨rfl, hw⟩
    subst w1
    go_wp2_with fail
    refine HK.mono ?_
    rintro e w1 ⟨rfl, hw⟩
    subst w1
    go_wp2
    go_ret
    exact ⟨rfl, rfl⟩
theorem turned_any (x : Int) (w : World) : Calls Tryd.prog 35 #[.int .i64 x] w fun e w' => e = .returned (.bool (decide (-20000 ≤ x) && decide (x ≤ 20000))) ∧ w' = w := by
  by_cases h : -20000 ≤ x
  all_goals
    go_enter Tryd.func35, Tryd.ntmps35
    go_wp2
    all_goals go_ret
    all_goals exact ⟨by simp; omega, rfl⟩
theorem level_any (x : Int) (w : World) : Calls Tryd.prog 39 #[.int .i64 x] w fun e w' => e = .returned (.bool (decide (-5000 ≤ x) && decide (x ≤ 5000))) ∧ w' = w := by
  by_cases h : -5000 ≤ x
  all_goals
    go_enter Tryd.func39, Tryd.ntmps39
    go_wp2
    all_goals go_ret
    all_goals exact ⟨by simp; omega, rfl⟩
theorem without_any (x : Int) (w : World) (h : -20000 ≤ x ∧ x ≤ 20000) : Calls Tryd.prog 38 #[.int .i64 x] w fun e w' => e = .returned (.int .i64 (absF x)) ∧ w' = w := by
  obtain ⟨h0, h1⟩ := h
  by_cases c : x < 0
  · have HF : Hid (absF x = -x) := by show absF x = _; unfold absF; rw [if_pos c]
    go_enter Tryd.func38, Tryd.ntmps38
    go_wp2
    go_ret
    exact ⟨by rw [HF.out]; rfl, rfl⟩
  · have HF : Hid (absF x = x) := by show absF x = _; unfold absF; rw [if_neg c]
    go_enter Tryd.func38, Tryd.ntmps38
    go_wp2
    go_ret
    exact ⟨by rw [HF.out]; rfl, rfl⟩
theorem signed_any (x n : Int) (w : World) (h : 0 ≤ n ∧ n ≤ 1000000) : Calls Tryd.prog 37 #[.int .i64 x, .int .i64 n] w fun e w' => e = .returned (.int .i64 (sgnF x n)) ∧ w' = w := by
  obtain ⟨h0, h1⟩ := h
  by_cases c : x < 0
  · have HF : Hid (sgnF x n = -n) := by show sgnF x n = _; unfold sgnF; rw [if_pos c]
    go_enter Tryd.func37, Tryd.ntmps37
    go_wp2
    go_ret
    exact ⟨by rw [HF.out]; rfl, rfl⟩
  · have HF : Hid (sgnF x n = n) := by show sgnF x n = _; unfold sgnF; rw [if_neg c]
    go_enter Tryd.func37, Tryd.ntmps37
    go_wp2
    go_ret
    exact ⟨by rw [HF.out]; rfl, rfl⟩
theorem implSmallBack (l qp p : Int) (w : World) (hs : TabC w 2 scL) (hk : TabC w 0 kdL) : Calls Tryd.prog 28 #[.int .i64 l, .int .i64 qp, .int .i64 p] w fun e w' => e = .returned (.int .i64 (smallB l qp p)) ∧ w' = w := by
  have HS := implScaleOf qp p w hs hk
  have hb := scaleF_all qp p
  have HL := level_any l w
  clear hs hk
  unfold smallB
  by_cases h : -5000 ≤ l ∧ l ≤ 5000
  · have hd : (decide (-5000 ≤ l) && decide (l ≤ 5000)) = true := by simp; omega
    rw [hd] at HL
    rw [if_pos h]
    generalize scaleF qp p = m at *
    have hm : -10000000 ≤ l * m ∧ l * m ≤ 10000000 := by
      have a := Int.mul_le_mul_of_nonneg_right h.2 hb.1
      have b := Int.mul_le_mul_of_nonneg_right h.1 hb.1
      omega
    clear hd h hb
    go_enter Tryd.func28, Tryd.ntmps28
    go_wp2_with fail
    refine HL.mono ?_
    rintro e w1 ⟨rfl, hw⟩
    subst w1
    go_wp2_with fail
    refine HS.mono ?_
    rintro e w1 ⟨rfl, hw⟩
    subst w1
    go_wp2
    go_ret
    exact ⟨rfl, rfl⟩
  · have hd : (decide (-5000 ≤ l) && decide (l ≤ 5000)) = false := by simp; omega
    rw [hd] at HL
    rw [if_neg h]
    clear hd h hb
    go_enter Tryd.func28, Tryd.ntmps28
    go_wp2_with fail
    refine HL.mono ?_
    rintro e w1 ⟨rfl, hw⟩
    subst w1
    go_wp2
    go_ret
    exact ⟨rfl, rfl⟩
theorem implLargeBack (l qp : Int) (w : World) (hs : TabC w 2 scL) : Calls Tryd.prog 16 #[.int .i64 l, .int .i64 qp] w fun e w' => e = .returned (.int .i64 (largeB l qp)) ∧ w' = w := by
  have HS := implStepOf qp w hs
  have hb := stepF_all qp
  have HL := level_any l w
  clear hs
  unfold largeB
  by_cases h : -5000 ≤ l ∧ l ≤ 5000
  · have hd : (decide (-5000 ≤ l) && decide (l ≤ 5000)) = true := by simp; omega
    rw [hd] at HL
    rw [if_pos h]
    generalize stepF qp = m at *
    have hm : -10000000 ≤ l * m ∧ l * m ≤ 10000000 := by
      have a := Int.mul_le_mul_of_nonneg_right h.2 hb.1
      have b := Int.mul_le_mul_of_nonneg_right h.1 hb.1
      omega
    clear hd h hb
    go_enter Tryd.func16, Tryd.ntmps16
    go_wp2_with fail
    refine HL.mono ?_
    rintro e w1 ⟨rfl, hw⟩
    subst w1
    go_wp2_with fail
    refine HS.mono ?_
    rintro e w1 ⟨rfl, hw⟩
    subst w1
    go_wp2
    go_ret
    exact ⟨rfl, rfl⟩
  · have hd : (decide (-5000 ≤ l) && decide (l ≤ 5000)) = false := by simp; omega
    rw [hd] at HL
    rw [if_neg h]
    clear hd h hb
    go_enter Tryd.func16, Tryd.ntmps16
    go_wp2_with fail
    refine HL.mono ?_
    rintro e w1 ⟨rfl, hw⟩
    subst w1
    go_wp2
    go_ret
    exact ⟨rfl, rfl⟩
end Go.Proofs.YtcfgnbiiegfenaaDoor
