/-
  The walks of impl.LargeLevel and impl.SmallLevel.
-/
import Derived.Test.YtcfgnbiiegfenaaDoorStepTops
namespace Go.Proofs.YtcfgnbiiegfenaaDoor
open Go.RowKit
set_option linter.unusedVariables false
set_option maxRecDepth 20000

theorem quo_in {a m : Int} (ha : 0 ≤ a ∧ a ≤ 1000000000) (hm : 1 ≤ m) : 0 ≤ a / m ∧ a / m ≤ 1000000000 := by
  have : a / m ≤ a := Int.ediv_le_self _ ha.1
  exact ⟨Int.ediv_nonneg ha.1 (by omega), by omega⟩
theorem implLargeLevel (x qp : Int) (w : World) (hs : TabC w 2 scL) : Calls Tryd.prog 15 #[.int .i64 x, .int .i64 qp] w fun e w' => e = .returned (.int .i64 (largeF x qp)) ∧ w' = w := by
  have HT := turned_any x w
  by_cases h : 0 ≤ qp ∧ qp ≤ 40
  · have HA := stepAt_ok qp w h
    by_cases hx : -20000 ≤ x ∧ x ≤ 20000
    · have hd : (decide (-20000 ≤ x) && decide (x ≤ 20000)) = true := by simp; omega
      rw [hd] at HT
      have HL := large_any qp w h hs
      have HW := without_any x w hx
      have hb := stepF_in qp h
      have ha := absF_in x hx
      have e1 : largeF x qp = sgnF x ((absF x + stepF qp / 2) / stepF qp) := by unfold largeF; rw [if_pos ⟨hx, h⟩]
      rw [e1]
      generalize stepF qp = m at *
      generalize absF x = y at *
      have hq := quo_in (a := y + m / 2) (m := m) (by omega) (by omega)
      have hq2 : (y + m / 2) / m ≤ 1000000 := Int.le_trans (Int.ediv_le_self _ (by omega)) (by omega)
      have HS := signed_any x ((y + m / 2) / m) w ⟨hq.1, hq2⟩
      have hm0 : ¬ m = 0 := by omega
      clear e1 hd hs h hx
      go_enter Tryd.func15, Tryd.ntmps15
      go_wp2_with fail
      refine HA.mono ?_
      rintro e w1 ⟨rfl, hw⟩
      subst w1
      go_wp2_with fail
      refine HT.mono ?_
      rintro e w1 ⟨rfl, hw⟩
      subst w1
      go_wp2_with fail
      refine HL.mono ?_
      rintro e w1 ⟨rfl, hw⟩
      subst w1
      go_wp2_with fail
      refine HW.mono ?_
      rintro e w1 ⟨rfl, hw⟩
      subst w1
      go_wp2_with fail
      refine HS.mono ?_
      rintro e w1 ⟨rfl, hw⟩
      subst w1
      go_wp2
      go_ret
      exact ⟨rfl, rfl⟩
    · have hd : (decide (-20000 ≤ x) && decide (x ≤ 20000)) = false := by simp; omega
      rw [hd] at HT
      have e1 : largeF x qp = 0 := by unfold largeF; rw [if_neg (fun c => hx c.1)]
      rw [e1]
      clear e1 hd hs h hx
      go_enter Tryd.func15, Tryd.ntmps15
      go_wp2_with fail
      refine HA.mono ?_
      rintro e w1 ⟨rfl, hw⟩
      subst w1
      go_wp2_with fail
      refine HT.mono ?_
      rintro e w1 ⟨rfl, hw⟩
      subst w1
      go_wp2
      go_ret
      exact ⟨rfl, rfl⟩
  · have HA := stepAt_no qp w h
    have e1 : largeF x qp = 0 := by unfold largeF; rw [if_neg (fun c => h c.2)]
    rw [e1]
    clear e1 hs h
    go_enter Tryd.func15, Tryd.ntmps15
    go_wp2_with fail
    refine HA.mono ?_
    rintro e w1 ⟨rfl, hw⟩
    subst w1
    go_wp2
    go_ret
    exact ⟨rfl, rfl⟩
theorem implSmallLevel (x qp p : Int) (w : World) (hs : TabC w 1 shL) (hk : TabC w 0 kdL) : Calls Tryd.prog 17 #[.int .i64 x, .int .i64 qp, .int .i64 p] w fun e w' => e = .returned (.int .i64 (smallF x qp p)) ∧ w' = w := by
  have HT := turned_any x w
  have HK := implKindOf p w hk
  by_cases h : 0 ≤ qp ∧ qp ≤ 40
  · have HA := stepAt_ok qp w h
    by_cases hp : 0 ≤ p ∧ p ≤ 15
    · have hb := kind_is p hp
      by_cases hx : -20000 ≤ x ∧ x ≤ 20000
      · have hd : (decide (-20000 ≤ x) && decide (x ≤ 20000)) = true := by simp; omega
        rw [hd] at HT
        have HD := doubled_any qp 32768 w h (by omega)
        have HW := without_any x w hx
        have HL := share_any qp _ w h (kindF_in p hp) hs
        have ha := absF_in x hx
        have hc := shareF_in qp p h hp
        have ht := twoQ_in qp h
        have e1 : smallF x qp p = sgnF x ((absF x * shareF qp p + 32768 * twoQ qp / 3) / (32768 * twoQ qp)) := by unfold smallF; rw [if_pos ⟨hx, h, hp⟩]
        rw [e1]
        rw [← shareF_pos qp p h hp] at HL
        have hN : 32768 ≤ 32768 * twoQ qp ∧ 32768 * twoQ qp ≤ 2097152 := by omega
        generalize 32768 * twoQ qp = m at *
        generalize shareF qp p = s at *
        generalize kindF p = k at *
        generalize absF x = y at *
        have hys := mul_in (A := 20000) (B := 13107) ha.1 ha.2 (show 0 ≤ s by omega) hc.2
        have hq := quo_in (a := y * s + m / 3) (m := m) (by omega) (by omega)
        have hq2 : (y * s + m / 3) / m ≤ 1000000 := by
          have a := Int.ediv_le_ediv (show (0 : Int) < m by omega) (show y * s + m / 3 ≤ 1000000 * m by omega)
          rw [Int.mul_ediv_cancel _ (by omega)] at a
          exact a
        have HS := signed_any x ((y * s + m / 3) / m) w ⟨hq.1, hq2⟩
        have hm0 : ¬ m = 0 := by omega
        clear e1 hd hs hk h hx hp ht
        go_enter Tryd.func17, Tryd.ntmps17
        go_wp2_with fail
        refine HA.mono ?_
        rintro e w1 ⟨rfl, hw⟩
        subst w1
        go_wp2_with fail
        refine HK.mono ?_
        rintro e w1 ⟨rfl, hw⟩
        subst w1
        go_wp2_with fail
        refine HT.mono ?_
        rintro e w1 ⟨rfl, hw⟩
        subst w1
        go_wp2_with fail
        refine HD.mono ?_
        rintro e w1 ⟨rfl, hw⟩
        subst w1
        go_wp2_with fail
        refine HW.mono ?_
        rintro e w1 ⟨rfl, hw⟩
        subst w1
        go_wp2_with fail
        refine HL.mono ?_
        rintro e w1 ⟨rfl, hw⟩
        subst w1
        go_wp2_with fail
        refine HS.mono ?_
        rintro e w1 ⟨rfl, hw⟩
        subst w1
        go_wp2
        go_ret
        exact ⟨rfl, rfl⟩
      · have hd : (decide (-20000 ≤ x) && decide (x ≤ 20000)) = false := by simp; omega
        rw [hd] at HT
        have e1 : smallF x qp p = 0 := by unfold smallF; rw [if_neg (fun c => hx c.1)]
        rw [e1]
        generalize kindF p = k at *
        clear e1 hd hs hk h hx hp
        go_enter Tryd.func17, Tryd.ntmps17
        go_wp2_with fail
        refine HA.mono ?_
        rintro e w1 ⟨rfl, hw⟩
        subst w1
        go_wp2_with fail
        refine HK.mono ?_
        rintro e w1 ⟨rfl, hw⟩
        subst w1
        go_wp2_with fail
        refine HT.mono ?_
        rintro e w1 ⟨rfl, hw⟩
        subst w1
        go_wp2
        go_ret
        exact ⟨rfl, rfl⟩
    · have e1 : smallF x qp p = 0 := by unfold smallF; rw [if_neg (fun c => hp c.2.2)]
      rw [kindF_no p hp] at HK
      rw [e1]
      clear e1 hs hk h hp
      go_enter Tryd.func17, Tryd.ntmps17
      go_wp2_with fail
      refine HA.mono ?_
      rintro e w1 ⟨rfl, hw⟩
      subst w1
      go_wp2_with fail
      refine HK.mono ?_
      rintro e w1 ⟨rfl, hw⟩
      subst w1
      go_wp2
      go_ret
      exact ⟨rfl, rfl⟩
  · have HA := stepAt_no qp w h
    have e1 : smallF x qp p = 0 := by unfold smallF; rw [if_neg (fun c => h c.2.1)]
    rw [e1]
    generalize kindF p = k at *
    clear e1 hs hk h
    go_enter Tryd.func17, Tryd.ntmps17
    go_wp2_with fail
    refine HA.mono ?_
    rintro e w1 ⟨rfl, hw⟩
    subst w1
    go_wp2_with fail
    refine HK.mono ?_
    rintro e w1 ⟨rfl, hw⟩
    subst w1
    go_wp2
    go_ret
    exact ⟨rfl, rfl⟩
end Go.Proofs.YtcfgnbiiegfenaaDoor
