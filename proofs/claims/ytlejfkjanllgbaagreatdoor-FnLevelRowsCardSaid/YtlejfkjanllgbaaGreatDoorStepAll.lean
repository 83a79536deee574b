/-
  The walks of impl's steps: the tables in memory, the methods of a step, KindOf.
  The walks of impl.ScaleOf, ShareOf, SmallLevel, SmallBack, LargeLevel and LargeBack.
  The walks of impl.LargeLevel and impl.SmallLevel.
-/
import Derived.Test.YtlejfkjanllgbaaGreatDoorRows
import Derived.Test.YtlejfkjanllgbaaGreatDoorStepMath
import Derived.WalkKit
import Derived.WalkSpells
import Derived.StillTactics
import Derived.OwnWalk
import Derived.Lib.LaidTab
namespace Go.Proofs.YtlejfkjanllgbaaGreatDoor
open Go.RowKit
set_option linter.unusedVariables false
set_option maxRecDepth 20000

/-- The three tables, each cell as the program's text has it. -/
def TabC (w : World) (g : Nat) (l : List Int) : Prop := ∀ i, i < l.length → w.cell? ⟨g, i, none⟩ = some (.int .i64 (l.getD i 0))

theorem rest_any (s : Int) (w : World) (h : 0 ≤ s ∧ s ≤ 40) : Calls Tryz.prog 105 #[.int .i64 s] w fun e w' => e = .returned (.int .i64 (s % 6)) ∧ w' = w := by
  obtain ⟨h0, h1⟩ := h
  go_enter Tryz.func105, Tryz.ntmps105
  go_wp2
  go_ret
  exact ⟨rfl, rfl⟩
theorem doubled_any (s n : Int) (w : World) (h : 0 ≤ s ∧ s ≤ 40) (hn : 0 ≤ n ∧ n ≤ 32768) : Calls Tryz.prog 80 #[.int .i64 s, .int .i64 n] w fun e w' => e = .returned (.int .i64 (n * twoQ s)) ∧ w' = w := by
  obtain ⟨r, q, hr, hq, er, eq⟩ := qp_parts h
  have HT : Hid (twoQ s = 2 ^ q) := by show twoQ s = _; unfold twoQ; rw [eq]; rfl
  obtain ⟨h0, h1⟩ := h
  obtain ⟨n0, n1⟩ := hn
  clear er hr
  rcases q_cases hq with rfl | rfl | rfl | rfl | rfl | rfl | rfl
  all_goals
    go_enter Tryz.func80, Tryz.ntmps80
    go_wp2
    go_ret
    exact ⟨by rw [HT.out]; first | rfl | simp, rfl⟩
theorem scale_any (s k : Int) (w : World) (h : 0 ≤ s ∧ s ≤ 40) (hk : 0 ≤ k ∧ k ≤ 2) (ht : TabC w 2 scL) : Calls Tryz.prog 107 #[.int .i64 s, .int .i64 k] w fun e w' => e = .returned (.int .i64 (atT scL s k * twoQ s)) ∧ w' = w := by
  obtain ⟨r, q, hr, hq, er, eq⟩ := qp_parts h
  clear eq hq
  have hb := atSc_in s k h hk
  have HR := rest_any s w h
  rw [er] at HR
  obtain ⟨k, rfl⟩ : ∃ m : Nat, k = m := ⟨k.toNat, by omega⟩
  have hc := ht (3 * r + k) (show _ < 18 by omega)
  have e1 : atT scL s k = scL.getD (3 * r + k) 0 := by unfold atT; rw [er]; simp
  rw [e1] at hb ⊢
  generalize scL.getD (3 * r + k) 0 = n at *
  rw [Nat.mul_comm] at hc
  have HD := doubled_any s n w h ⟨by omega, by omega⟩
  clear e1 ht
  have hk2 : (k : Int) < 3 := by omega
  have hr2 : (r : Int) < 6 := by omega
  clear er h hk hr
  go_enter Tryz.func107, Tryz.ntmps107
  go_wp2_with fail
  refine HR.mono ?_
  rintro e w1 ⟨rfl, hw⟩
  subst w1
  go_wp2_with fail
  refine HD.mono ?_
  rintro e w1 ⟨rfl, hw⟩
  subst w1
  go_wp2
  go_ret
  exact ⟨rfl, rfl⟩
theorem share_any (s k : Int) (w : World) (h : 0 ≤ s ∧ s ≤ 40) (hk : 0 ≤ k ∧ k ≤ 2) (ht : TabC w 1 shL) : Calls Tryz.prog 83 #[.int .i64 s, .int .i64 k] w fun e w' => e = .returned (.int .i64 (atT shL s k)) ∧ w' = w := by
  obtain ⟨r, q, hr, hq, er, eq⟩ := qp_parts h
  clear eq hq
  have HR := rest_any s w h
  rw [er] at HR
  obtain ⟨k, rfl⟩ : ∃ m : Nat, k = m := ⟨k.toNat, by omega⟩
  have hc := ht (3 * r + k) (show _ < 18 by omega)
  have e1 : atT shL s k = shL.getD (3 * r + k) 0 := by unfold atT; rw [er]; simp
  rw [e1]
  generalize shL.getD (3 * r + k) 0 = n at *
  rw [Nat.mul_comm] at hc
  clear e1 ht
  have hk2 : (k : Int) < 3 := by omega
  have hr2 : (r : Int) < 6 := by omega
  clear er h hk hr
  go_enter Tryz.func83, Tryz.ntmps83
  go_wp2_with fail
  refine HR.mono ?_
  rintro e w1 ⟨rfl, hw⟩
  subst w1
  go_wp2
  go_ret
  exact ⟨rfl, rfl⟩
theorem large_any (s : Int) (w : World) (h : 0 ≤ s ∧ s ≤ 40) (ht : TabC w 2 scL) : Calls Tryz.prog 93 #[.int .i64 s] w fun e w' => e = .returned (.int .i64 (stepF s)) ∧ w' = w := by
  have HS := scale_any s 0 w h (by omega) ht
  have e1 : atT scL s 0 * twoQ s = stepF s := by unfold stepF; rw [if_pos h]
  rw [e1] at HS
  clear e1 ht
  go_enter Tryz.func93, Tryz.ntmps93
  go_wp2_with fail
  refine HS.mono ?_
  rintro e w1 ⟨rfl, hw⟩
  subst w1
  go_wp2
  go_ret
  exact ⟨rfl, rfl⟩
theorem stepAt_ok (qp : Int) (w : World) (h : 0 ≤ qp ∧ qp ≤ 40) : Calls Tryz.prog 31 #[.int .i64 qp] w fun e w' => e = .returned (.tuple #[.int .i64 qp, .bool true]) ∧ w' = w := by
  obtain ⟨h0, h1⟩ := h
  go_enter Tryz.func31, Tryz.ntmps31
  go_wp2
  go_ret2
  exact ⟨rfl, rfl⟩
theorem stepAt_no (qp : Int) (w : World) (h : ¬ (0 ≤ qp ∧ qp ≤ 40)) : Calls Tryz.prog 31 #[.int .i64 qp] w fun e w' => e = .returned (.tuple #[.int .i64 0, .bool false]) ∧ w' = w := by
  have h' : qp < 0 ∨ 40 < qp := by omega
  clear h
  rcases h' with c | c
  all_goals
    go_enter Tryz.func31, Tryz.ntmps31
    go_wp2
    go_ret2
    exact ⟨rfl, rfl⟩
theorem implStepOf (qp : Int) (w : World) (ht : TabC w 2 scL) : Calls Tryz.prog 94 #[.int .i64 qp] w fun e w' => e = .returned (.int .i64 (stepF qp)) ∧ w' = w := by
  by_cases h : 0 ≤ qp ∧ qp ≤ 40
  · have HL := large_any qp w h ht
    have HA := stepAt_ok qp w h
    clear ht h
    go_enter Tryz.func94, Tryz.ntmps94
    go_wp2_with fail
    refine HA.mono ?_
    rintro e w1 ⟨rfl, hw⟩
    subst w1
    go_wp2_with fail
    refine HL.mono ?_
    rintro e w1 ⟨rfl, hw⟩
    subst w1
    go_wp2
    go_ret
    exact ⟨rfl, rfl⟩
  · have HA := stepAt_no qp w h
    have e1 : stepF qp = 0 := by unfold stepF; rw [if_neg h]
    rw [e1]
    clear ht h e1
    go_enter Tryz.func94, Tryz.ntmps94
    go_wp2_with fail
    refine HA.mono ?_
    rintro e w1 ⟨rfl, hw⟩
    subst w1
    go_wp2
    go_ret
    exact ⟨rfl, rfl⟩
theorem implKindOf (p : Int) (w : World) (ht : TabC w 0 kdL) : Calls Tryz.prog 78 #[.int .i64 p] w fun e w' => e = .returned (.int .i64 (kindF p)) ∧ w' = w := by
  by_cases h : 0 ≤ p ∧ p ≤ 15
  · have hc := ht (2 * (p / 4 % 2).toNat + (p % 4 % 2).toNat) (show _ < 4 by omega)
    have e1 : kindF p = kdL.getD (2 * (p / 4 % 2).toNat + (p % 4 % 2).toNat) 0 := by unfold kindF; rw [if_pos h]
    rw [e1]
    generalize kdL.getD (2 * (p / 4 % 2).toNat + (p % 4 % 2).toNat) 0 = n at *
    obtain ⟨r, hr⟩ : ∃ r : Nat, p / 4 % 2 = r := ⟨(p / 4 % 2).toNat, by omega⟩
    obtain ⟨c, hcc⟩ : ∃ c : Nat, p % 4 % 2 = c := ⟨(p % 4 % 2).toNat, by omega⟩
    rw [hr, hcc, Nat.mul_comm] at hc
    simp only [Int.toNat_natCast] at hc
    have hr2 : (r : Int) < 2 := by omega
    have hc2 : (c : Int) < 2 := by omega
    obtain ⟨h0, h1⟩ := h
    clear ht e1
    go_enter Tryz.func78, Tryz.ntmps78
    go_wp2
    go_ret
    exact ⟨rfl, rfl⟩
  · rw [kindF_no p h]
    have h' : p < 0 ∨ 15 < p := by omega
    clear h ht
    rcases h' with c | c
    all_goals
      go_enter Tryz.func78, Tryz.ntmps78
      go_wp2
      go_ret
      exact ⟨rfl, rfl⟩
end Go.Proofs.YtlejfkjanllgbaaGreatDoor

namespace Go.Proofs.YtlejfkjanllgbaaGreatDoor
open Go.RowKit
set_option linter.unusedVariables false

theorem kind_is (p : Int) (h : 0 ≤ p ∧ p ≤ 15) : (kindF p == -1) = false := by have := kindF_in p h; rw [beq_eq_false_iff_ne]; omega
theorem implScaleOf (qp p : Int) (w : World) (hs : TabC w 2 scL) (hk : TabC w 0 kdL) : Calls Tryz.prog 87 #[.int .i64 qp, .int .i64 p] w fun e w' => e = .returned (.int .i64 (scaleF qp p)) ∧ w' = w := by
  have HK := implKindOf p w hk
  by_cases h : 0 ≤ qp ∧ qp ≤ 40
  · have HA := stepAt_ok qp w h
    by_cases hp : 0 ≤ p ∧ p ≤ 15
    · have HS := scale_any qp _ w h (kindF_in p hp) hs
      have hb := kind_is p hp
      rw [scaleF_pos qp p h hp]
      generalize atT scL qp (kindF p) * twoQ qp = m at *
      generalize kindF p = k at *
      clear hs hk h hp
      go_enter Tryz.func87, Tryz.ntmps87
      go_wp2_with fail
      refine HA.mono ?_
      rintro e w1 ⟨rfl, hw⟩
      subst w1
      go_wp2_with fail
      refine HK.mono ?_
      rintro e w1 ⟨rfl, hw⟩
      subst w1
      go_wp2_with fail
      refine HS.mono ?_
      rintro e w1 ⟨rfl, hw⟩
      subst w1
      go_wp2
      go_ret
      exact ⟨rfl, rfl⟩
    · have e1 : scaleF qp p = 0 := by unfold scaleF; rw [if_neg (fun c => hp c.2)]
      rw [kindF_no p hp] at HK
      rw [e1]
      clear hs hk h hp e1
      go_enter Tryz.func87, Tryz.ntmps87
      go_wp2_with fail
      refine HA.mono ?_
      rintro e w1 ⟨rfl, hw⟩
      subst w1
      go_wp2_with fail
      refine HK.mono ?_
      rintro e w1 ⟨rfl, hw⟩
      subst w1
      go_wp2
      go_ret
      exact ⟨rfl, rfl⟩
  · have HA := stepAt_no qp w h
    have e1 : scaleF qp p = 0 := by unfold scaleF; rw [if_neg (fun c => h c.1)]
    rw [e1]
    generalize kindF p = k at *
    clear hs hk h e1
    go_enter Tryz.func87, Tryz.ntmps87
    go_wp2_with fail
    refine HA.mono ?_
    rintro e w1 ⟨rfl, hw⟩
    subst w1
    go_wp2_with fail
    refine HK.mono ?_
    rintro e w1 ⟨rfl, hw⟩
    subst w1
    go_wp2
    go_ret
    exact ⟨rfl, rfl⟩
theorem turned_any (x : Int) (w : World) : Calls Tryz.prog 79 #[.int .i64 x] w fun e w' => e = .returned (.bool (decide (-20000 ≤ x) && decide (x ≤ 20000))) ∧ w' = w := by
  by_cases h : -20000 ≤ x
  all_goals
    go_enter Tryz.func79, Tryz.ntmps79
    go_wp2
    all_goals go_ret
    all_goals exact ⟨by simp; omega, rfl⟩
theorem level_any (x : Int) (w : World) : Calls Tryz.prog 86 #[.int .i64 x] w fun e w' => e = .returned (.bool (decide (-5000 ≤ x) && decide (x ≤ 5000))) ∧ w' = w := by
  by_cases h : -5000 ≤ x
  all_goals
    go_enter Tryz.func86, Tryz.ntmps86
    go_wp2
    all_goals go_ret
    all_goals exact ⟨by simp; omega, rfl⟩
theorem without_any (x : Int) (w : World) (h : -20000 ≤ x ∧ x ≤ 20000) : Calls Tryz.prog 82 #[.int .i64 x] w fun e w' => e = .returned (.int .i64 (absF x)) ∧ w' = w := by
  obtain ⟨h0, h1⟩ := h
  by_cases c : x < 0
  · have HF : Hid (absF x = -x) := by show absF x = _; unfold absF; rw [if_pos c]
    go_enter Tryz.func82, Tryz.ntmps82
    go_wp2
    go_ret
    exact ⟨by rw [HF.out]; rfl, rfl⟩
  · have HF : Hid (absF x = x) := by show absF x = _; unfold absF; rw [if_neg c]
    go_enter Tryz.func82, Tryz.ntmps82
    go_wp2
    go_ret
    exact ⟨by rw [HF.out]; rfl, rfl⟩
theorem signed_any (x n : Int) (w : World) (h : 0 ≤ n ∧ n ≤ 1000000) : Calls Tryz.prog 81 #[.int .i64 x, .int .i64 n] w fun e w' => e = .returned (.int .i64 (sgnF x n)) ∧ w' = w := by
  obtain ⟨h0, h1⟩ := h
  by_cases c : x < 0
  · have HF : Hid (sgnF x n = -n) := by show sgnF x n = _; unfold sgnF; rw [if_pos c]
    go_enter Tryz.func81, Tryz.ntmps81
    go_wp2
    go_ret
    exact ⟨by rw [HF.out]; rfl, rfl⟩
  · have HF : Hid (sgnF x n = n) := by show sgnF x n = _; unfold sgnF; rw [if_neg c]
    go_enter Tryz.func81, Tryz.ntmps81
    go_wp2
    go_ret
    exact ⟨by rw [HF.out]; rfl, rfl⟩
theorem implSmallBack (l qp p : Int) (w : World) (hs : TabC w 2 scL) (hk : TabC w 0 kdL) : Calls Tryz.prog 59 #[.int .i64 l, .int .i64 qp, .int .i64 p] w fun e w' => e = .returned (.int .i64 (smallB l qp p)) ∧ w' = w := by
  have HS := implScaleOf qp p w hs hk
  have hb := scaleF_all qp p
  have HL := level_any l w
  clear hs hk
  unfold smallB
  by_cases h : -5000 ≤ l ∧ l ≤ 5000
  · have hd : (decide (-5000 ≤ l) && decide (l ≤ 5000)) = true := by simp; omega
    rw [hd] at HL
    rw [if_pos h]
    generalize scaleF qp p = m at *
    have hm : -10000000 ≤ l * m ∧ l * m ≤ 10000000 := by
      have a := Int.mul_le_mul_of_nonneg_right h.2 hb.1
      have b := Int.mul_le_mul_of_nonneg_right h.1 hb.1
      omega
    clear hd h hb
    go_enter Tryz.func59, Tryz.ntmps59
    go_wp2_with fail
    refine HL.mono ?_
    rintro e w1 ⟨rfl, hw⟩
    subst w1
    go_wp2_with fail
    refine HS.mono ?_
    rintro e w1 ⟨rfl, hw⟩
    subst w1
    go_wp2
    go_ret
    exact ⟨rfl, rfl⟩
  · have hd : (decide (-5000 ≤ l) && decide (l ≤ 5000)) = false := by simp; omega
    rw [hd] at HL
    rw [if_neg h]
    clear hd h hb
    go_enter Tryz.func59, Tryz.ntmps59
    go_wp2_with fail
    refine HL.mono ?_
    rintro e w1 ⟨rfl, hw⟩
    subst w1
    go_wp2
    go_ret
    exact ⟨rfl, rfl⟩
theorem implLargeBack (l qp : Int) (w : World) (hs : TabC w 2 scL) : Calls Tryz.prog 64 #[.int .i64 l, .int .i64 qp] w fun e w' => e = .returned (.int .i64 (largeB l qp)) ∧ w' = w := by
  have HS := implStepOf qp w hs
  have hb := stepF_all qp
  have HL := level_any l w
  clear hs
  unfold largeB
  by_cases h : -5000 ≤ l ∧ l ≤ 5000
  · have hd : (decide (-5000 ≤ l) && decide (l ≤ 5000)) = true := by simp; omega
    rw [hd] at HL
    rw [if_pos h]
    generalize stepF qp = m at *
    have hm : -10000000 ≤ l * m ∧ l * m ≤ 10000000 := by
      have a := Int.mul_le_mul_of_nonneg_right h.2 hb.1
      have b := Int.mul_le_mul_of_nonneg_right h.1 hb.1
      omega
    clear hd h hb
    go_enter Tryz.func64, Tryz.ntmps64
    go_wp2_with fail
    refine HL.mono ?_
    rintro e w1 ⟨rfl, hw⟩
    subst w1
    go_wp2_with fail
    refine HS.mono ?_
    rintro e w1 ⟨rfl, hw⟩
    subst w1
    go_wp2
    go_ret
    exact ⟨rfl, rfl⟩
  · have hd : (decide (-5000 ≤ l) && decide (l ≤ 5000)) = false := by simp; omega
    rw [hd] at HL
    rw [if_neg h]
    clear hd h hb
    go_enter Tryz.func64, Tryz.ntmps64
    go_wp2_with fail
    refine HL.mono ?_
    rintro e w1 ⟨rfl, hw⟩
    subst w1
    go_wp2
    go_ret
    exact ⟨rfl, rfl⟩
end Go.Proofs.YtlejfkjanllgbaaGreatDoor

namespace Go.Proofs.YtlejfkjanllgbaaGreatDoor
open Go.RowKit
set_option linter.unusedVariables false

theorem quo_in {a m : Int} (ha : 0 ≤ a ∧ a ≤ 1000000000) (hm : 1 ≤ m) : 0 ≤ a / m ∧ a / m ≤ 1000000000 := by
  have : a / m ≤ a := Int.ediv_le_self _ ha.1
  exact ⟨Int.ediv_nonneg ha.1 (by omega), by omega⟩
theorem implLargeLevel (x qp : Int) (w : World) (hs : TabC w 2 scL) : Calls Tryz.prog 63 #[.int .i64 x, .int .i64 qp] w fun e w' => e = .returned (.int .i64 (largeF x qp)) ∧ w' = w := by
  have HT := turned_any x w
  by_cases h : 0 ≤ qp ∧ qp ≤ 40
  · have HA := stepAt_ok qp w h
    by_cases hx : -20000 ≤ x ∧ x ≤ 20000
    · have hd : (decide (-20000 ≤ x) && decide (x ≤ 20000)) = true := by simp; omega
      rw [hd] at HT
      have HL := large_any qp w h hs
      have HW := without_any x w hx
      have hb := stepF_in qp h
      have ha := absF_in x hx
      have e1 : largeF x qp = sgnF x ((absF x + stepF qp / 2) / stepF qp) := by unfold largeF; rw [if_pos ⟨hx, h⟩]
      rw [e1]
      generalize stepF qp = m at *
      generalize absF x = y at *
      have hq := quo_in (a := y + m / 2) (m := m) (by omega) (by omega)
      have hq2 : (y + m / 2) / m ≤ 1000000 := Int.le_trans (Int.ediv_le_self _ (by omega)) (by omega)
      have HS := signed_any x ((y + m / 2) / m) w ⟨hq.1, hq2⟩
      have hm0 : ¬ m = 0 := by omega
      clear e1 hd hs h hx
      go_enter Tryz.func63, Tryz.ntmps63
      go_wp2_with fail
      refine HA.mono ?_
      rintro e w1 ⟨rfl, hw⟩
      subst w1
      go_wp2_with fail
      refine HT.mono ?_
      rintro e w1 ⟨rfl, hw⟩
      subst w1
      go_wp2_with fail
      refine HL.mono ?_
      rintro e w1 ⟨rfl, hw⟩
      subst w1
      go_wp2_with fail
      refine HW.mono ?_
      rintro e w1 ⟨rfl, hw⟩
      subst w1
      go_wp2_with fail
      refine HS.mono ?_
      rintro e w1 ⟨rfl, hw⟩
      subst w1
      go_wp2
      go_ret
      exact ⟨rfl, rfl⟩
    · have hd : (decide (-20000 ≤ x) && decide (x ≤ 20000)) = false := by simp; omega
      rw [hd] at HT
      have e1 : largeF x qp = 0 := by unfold largeF; rw [if_neg (fun c => hx c.1)]
      rw [e1]
      clear e1 hd hs h hx
      go_enter Tryz.func63, Tryz.ntmps63
      go_wp2_with fail
      refine HA.mono ?_
      rintro e w1 ⟨rfl, hw⟩
      subst w1
      go_wp2_with fail
      refine HT.mono ?_
      rintro e w1 ⟨rfl, hw⟩
      subst w1
      go_wp2
      go_ret
      exact ⟨rfl, rfl⟩
  · have HA := stepAt_no qp w h
    have e1 : largeF x qp = 0 := by unfold largeF; rw [if_neg (fun c => h c.2)]
    rw [e1]
    clear e1 hs h
    go_enter Tryz.func63, Tryz.ntmps63
    go_wp2_with fail
    refine HA.mono ?_
    rintro e w1 ⟨rfl, hw⟩
    subst w1
    go_wp2
    go_ret
    exact ⟨rfl, rfl⟩
theorem implSmallLevel (x qp p : Int) (w : World) (hs : TabC w 1 shL) (hk : TabC w 0 kdL) : Calls Tryz.prog 56 #[.int .i64 x, .int .i64 qp, .int .i64 p] w fun e w' => e = .returned (.int .i64 (smallF x qp p)) ∧ w' = w := by
  have HT := turned_any x w
  have HK := implKindOf p w hk
  by_cases h : 0 ≤ qp ∧ qp ≤ 40
  · have HA := stepAt_ok qp w h
    by_cases hp : 0 ≤ p ∧ p ≤ 15
    · have hb := kind_is p hp
      by_cases hx : -20000 ≤ x ∧ x ≤ 20000
      · have hd : (decide (-20000 ≤ x) && decide (x ≤ 20000)) = true := by simp; omega
        rw [hd] at HT
        have HD := doubled_any qp 32768 w h (by omega)
        have HW := without_any x w hx
        have HL := share_any qp _ w h (kindF_in p hp) hs
        have ha := absF_in x hx
        have hc := shareF_in qp p h hp
        have ht := twoQ_in qp h
        have e1 : smallF x qp p = sgnF x ((absF x * shareF qp p + 32768 * twoQ qp / 3) / (32768 * twoQ qp)) := by unfold smallF; rw [if_pos ⟨hx, h, hp⟩]
        rw [e1]
        rw [← shareF_pos qp p h hp] at HL
        have hN : 32768 ≤ 32768 * twoQ qp ∧ 32768 * twoQ qp ≤ 2097152 := by omega
        generalize 32768 * twoQ qp = m at *
        generalize shareF qp p = s at *
        generalize kindF p = k at *
        generalize absF x = y at *
        have hys := mul_in (A := 20000) (B := 13107) ha.1 ha.2 (show 0 ≤ s by omega) hc.2
        have hq := quo_in (a := y * s + m / 3) (m := m) (by omega) (by omega)
        have hq2 : (y * s + m / 3) / m ≤ 1000000 := by
          have a := Int.ediv_le_ediv (show (0 : Int) < m by omega) (show y * s + m / 3 ≤ 1000000 * m by omega)
          rw [Int.mul_ediv_cancel _ (by omega)] at a
          exact a
        have HS := signed_any x ((y * s + m / 3) / m) w ⟨hq.1, hq2⟩
        have hm0 : ¬ m = 0 := by omega
        clear e1 hd hs hk h hx hp ht
        go_enter Tryz.func56, Tryz.ntmps56
        go_wp2_with fail
        refine HA.mono ?_
        rintro e w1 ⟨rfl, hw⟩
        subst w1
        go_wp2_with fail
        refine HK.mono ?_
        rintro e w1 ⟨rfl, hw⟩
        subst w1
        go_wp2_with fail
        refine HT.mono ?_
        rintro e w1 ⟨rfl, hw⟩
        subst w1
        go_wp2_with fail
        refine HD.mono ?_
        rintro e w1 ⟨rfl, hw⟩
        subst w1
        go_wp2_with fail
        refine HW.mono ?_
        rintro e w1 ⟨rfl, hw⟩
        subst w1
        go_wp2_with fail
        refine HL.mono ?_
        rintro e w1 ⟨rfl, hw⟩
        subst w1
        go_wp2_with fail
        refine HS.mono ?_
        rintro e w1 ⟨rfl, hw⟩
        subst w1
        go_wp2
        go_ret
        exact ⟨rfl, rfl⟩
      · have hd : (decide (-20000 ≤ x) && decide (x ≤ 20000)) = false := by simp; omega
        rw [hd] at HT
        have e1 : smallF x qp p = 0 := by unfold smallF; rw [if_neg (fun c => hx c.1)]
        rw [e1]
        generalize kindF p = k at *
        clear e1 hd hs hk h hx hp
        go_enter Tryz.func56, Tryz.ntmps56
        go_wp2_with fail
        refine HA.mono ?_
        rintro e w1 ⟨rfl, hw⟩
        subst w1
        go_wp2_with fail
        refine HK.mono ?_
        rintro e w1 ⟨rfl, hw⟩
        subst w1
        go_wp2_with fail
        refine HT.mono ?_
        rintro e w1 ⟨rfl, hw⟩
        subst w1
        go_wp2
        go_ret
        exact ⟨rfl, rfl⟩
    · have e1 : smallF x qp p = 0 := by unfold smallF; rw [if_neg (fun c => hp c.2.2)]
      rw [kindF_no p hp] at HK
      rw [e1]
      clear e1 hs hk h hp
      go_enter Tryz.func56, Tryz.ntmps56
      go_wp2_with fail
      refine HA.mono ?_
      rintro e w1 ⟨rfl, hw⟩
      subst w1
      go_wp2_with fail
      refine HK.mono ?_
      rintro e w1 ⟨rfl, hw⟩
      subst w1
      go_wp2
      go_ret
      exact ⟨rfl, rfl⟩
  · have HA := stepAt_no qp w h
    have e1 : smallF x qp p = 0 := by unfold smallF; rw [if_neg (fun c => h c.2.1)]
    rw [e1]
    generalize kindF p = k at *
    clear e1 hs hk h
    go_enter Tryz.func56, Tryz.ntmps56
    go_wp2_with fail
    refine HA.mono ?_
    rintro e w1 ⟨rfl, hw⟩
    subst w1
    go_wp2_with fail
    refine HK.mono ?_
    rintro e w1 ⟨rfl, hw⟩
    subst w1
    go_wp2
    go_ret
    exact ⟨rfl, rfl⟩
end Go.Proofs.YtlejfkjanllgbaaGreatDoor
