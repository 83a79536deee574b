/-
  The walks of impl's steps: the tables in memory, the methods of a step, KindOf.
-/
import Derived.Test.YtcfgnbiiegfenaaDoorRows
import Derived.Test.YtcfgnbiiegfenaaDoorStepMath
import Derived.WalkKit
import Derived.WalkSpells
import Derived.StillTactics
import Derived.OwnWalk
import Derived.Lib.LaidTab
namespace Go.Proofs.YtcfgnbiiegfenaaDoor
open Go.RowKit
set_option linter.unusedVariables false
set_option maxRecDepth 20000

/-- The three tables, each cell as the program's text has it. -/
def TabC (w : World) (g : Nat) (l : List Int) : Prop := ∀ i, i < l.length → w.cell? ⟨g, i, none⟩ = some (.int .i64 (l.getD i 0))

theorem rest_any (s : Int) (w : World) (h : 0 ≤ s ∧ s ≤ 40) : Calls Tryd.prog 47 #[.int .i64 s] w fun e w' => e = .returned (.int .i64 (s % 6)) ∧ w' = w := by
  obtain ⟨h0, h1⟩ := h
  go_enter Tryd.func47, Tryd.ntmps47
  go_wp2
  go_ret
  exact ⟨rfl, rfl⟩
theorem doubled_any (s n : Int) (w : World) (h : 0 ≤ s ∧ s ≤ 40) (hn : 0 ≤ n ∧ n ≤ 32768) : Calls Tryd.prog 40 #[.int .i64 s, .int .i64 n] w fun e w' => e = .returned (.int .i64 (n * twoQ s)) ∧ w' = w := by
  obtain ⟨r, q, hr, hq, er, eq⟩ := qp_parts h
  have HT : Hid (twoQ s = 2 ^ q) := by show twoQ s = _; unfold twoQ; rw [eq]; rfl
  obtain ⟨h0, h1⟩ := h
  obtain ⟨n0, n1⟩ := hn
  clear er hr
  rcases q_cases hq with rfl | rfl | rfl | rfl | rfl | rfl | rfl
  all_goals
    go_enter Tryd.func40, Tryd.ntmps40
    go_wp2
    go_ret
    exact ⟨by rw [HT.out]; first | rfl | simp, rfl⟩
theorem scale_any (s k : Int) (w : World) (h : 0 ≤ s ∧ s ≤ 40) (hk : 0 ≤ k ∧ k ≤ 2) (ht : TabC w 2 scL) : Calls Tryd.prog 42 #[.int .i64 s, .int .i64 k] w fun e w' => e = .returned (.int .i64 (atT scL s k * twoQ s)) ∧ w' = w := by
  obtain ⟨r, q, hr, hq, er, eq⟩ := qp_parts h
  clear eq hq
  have hb := atSc_in s k h hk
  have HR := rest_any s w h
  rw [er] at HR
  obtain ⟨k, rfl⟩ : ∃ m : Nat, k = m := ⟨k.toNat, by omega⟩
  have hc := ht (3 * r + k) (show _ < 18 by omega)
  have e1 : atT scL s k = scL.getD (3 * r + k) 0 := by unfold atT; rw [er]; simp
  rw [e1] at hb ⊢
  generalize scL.getD (3 * r + k) 0 = n at *
  rw [Nat.mul_comm] at hc
  have HD := doubled_any s n w h ⟨by omega, by omega⟩
  clear e1 ht
  have hk2 : (k : Int) < 3 := by omega
  have hr2 : (r : Int) < 6 := by omega
  clear er h hk hr
  go_enter Tryd.func42, Tryd.ntmps42
  go_wp2_with fail
  refine HR.mono ?_
  rintro e w1 ⟨rfl, hw⟩
  subst w1
  go_wp2_with fail
  refine HD.mono ?_
  rintro e w1 ⟨rfl, hw⟩
  subst w1
  go_wp2
  go_ret
  exact ⟨rfl, rfl⟩
theorem share_any (s k : Int) (w : World) (h : 0 ≤ s ∧ s ≤ 40) (hk : 0 ≤ k ∧ k ≤ 2) (ht : TabC w 1 shL) : Calls Tryd.prog 41 #[.int .i64 s, .int .i64 k] w fun e w' => e = .returned (.int .i64 (atT shL s k)) ∧ w' = w := by
  obtain ⟨r, q, hr, hq, er, eq⟩ := qp_parts h
  clear eq hq
  have HR := rest_any s w h
  rw [er] at HR
  obtain ⟨k, rfl⟩ : ∃ m : Nat, k = m := ⟨k.toNat, by omega⟩
  have hc := ht (3 * r + k) (show _ < 18 by omega)
  have e1 : atT shL s k = shL.getD (3 * r + k) 0 := by unfold atT; rw [er]; simp
  rw [e1]
  generalize shL.getD (3 * r + k) 0 = n at *
  rw [Nat.mul_comm] at hc
  clear e1 ht
  have hk2 : (k : Int) < 3 := by omega
  have hr2 : (r : Int) < 6 := by omega
  clear er h hk hr
  go_enter Tryd.func41, Tryd.ntmps41
  go_wp2_with fail
  refine HR.mono ?_
  rintro e w1 ⟨rfl, hw⟩
  subst w1
  go_wp2
  go_ret
  exact ⟨rfl, rfl⟩
theorem large_any (s : Int) (w : World) (h : 0 ≤ s ∧ s ≤ 40) (ht : TabC w 2 scL) : Calls Tryd.prog 36 #[.int .i64 s] w fun e w' => e = .returned (.int .i64 (stepF s)) ∧ w' = w := by
  have HS := scale_any s 0 w h (by omega) ht
  have e1 : atT scL s 0 * twoQ s = stepF s := by unfold stepF; rw [if_pos h]
  rw [e1] at HS
  clear e1 ht
  go_enter Tryd.func36, Tryd.ntmps36
  go_wp2_with fail
  refine HS.mono ?_
  rintro e w1 ⟨rfl, hw⟩
  subst w1
  go_wp2
  go_ret
  exact ⟨rfl, rfl⟩
theorem stepAt_ok (qp : Int) (w : World) (h : 0 ≤ qp ∧ qp ≤ 40) : Calls Tryd.prog 34 #[.int .i64 qp] w fun e w' => e = .returned (.tuple #[.int .i64 qp, .bool true]) ∧ w' = w := by
  obtain ⟨h0, h1⟩ := h
  go_enter Tryd.func34, Tryd.ntmps34
  go_wp2
  go_ret2
  exact ⟨rfl, rfl⟩
theorem stepAt_no (qp : Int) (w : World) (h : ¬ (0 ≤ qp ∧ qp ≤ 40)) : Calls Tryd.prog 34 #[.int .i64 qp] w fun e w' => e = .returned (.tuple #[.int .i64 0, .bool false]) ∧ w' = w := by
  have h' : qp < 0 ∨ 40 < qp := by omega
  clear h
  rcases h' with c | c
  all_goals
    go_enter Tryd.func34, Tryd.ntmps34
    go_wp2
    go_ret2
    exact ⟨rfl, rfl⟩
theorem implStepOf (qp : Int) (w : World) (ht : TabC w 2 scL) : Calls Tryd.prog 18 #[.int .i64 qp] w fun e w' => e = .returned (.int .i64 (stepF qp)) ∧ w' = w := by
  by_cases h : 0 ≤ qp ∧ qp ≤ 40
  · have HL := large_any qp w h ht
    have HA := stepAt_ok qp w h
    clear ht h
    go_enter Tryd.func18, Tryd.ntmps18
    go_wp2_with fail
    refine HA.mono ?_
    rintro e w1 ⟨rfl, hw⟩
    subst w1
    go_wp2_with fail
    refine HL.mono ?_
    rintro e w1 ⟨rfl, hw⟩
    subst w1
    go_wp2
    go_ret
    exact ⟨rfl, rfl⟩
  · have HA := stepAt_no qp w h
    have e1 : stepF qp = 0 := by unfold stepF; rw [if_neg h]
    rw [e1]
    clear ht h e1
    go_enter Tryd.func18, Tryd.ntmps18
    go_wp2_with fail
    refine HA.mono ?_
    rintro e w1 ⟨rfl, hw⟩
    subst w1
    go_wp2
    go_ret
    exact ⟨rfl, rfl⟩
theorem implKindOf (p : Int) (w : World) (ht : TabC w 0 kdL) : Calls Tryd.prog 23 #[.int .i64 p] w fun e w' => e = .returned (.int .i64 (kindF p)) ∧ w' = w := by
  by_cases h : 0 ≤ p ∧ p ≤ 15
  · have hc := ht (2 * (p / 4 % 2).toNat + (p % 4 % 2).toNat) (show _ < 4 by omega)
    have e1 : kindF p = kdL.getD (2 * (p / 4 % 2).toNat + (p % 4 % 2).toNat) 0 := by unfold kindF; rw [if_pos h]
    rw [e1]
    generalize kdL.getD (2 * (p / 4 % 2).toNat + (p % 4 % 2).toNat) 0 = n at *
    obtain ⟨r, hr⟩ : ∃ r : Nat, p / 4 % 2 = r := ⟨(p / 4 % 2).toNat, by omega⟩
    obtain ⟨c, hcc⟩ : ∃ c : Nat, p % 4 % 2 = c := ⟨(p % 4 % 2).toNat, by omega⟩
    rw [hr, hcc, Nat.mul_comm] at hc
    simp only [Int.toNat_natCast] at hc
    have hr2 : (r : Int) < 2 := by omega
    have hc2 : (c : Int) < 2 := by omega
    obtain ⟨h0, h1⟩ := h
    clear ht e1
    go_enter Tryd.func23, Tryd.ntmps23
    go_wp2
    go_ret
    exact ⟨rfl, rfl⟩
  · rw [kindF_no p h]
    have h' : p < 0 ∨ 15 < p := by omega
    clear h ht
    rcases h' with c | c
    all_goals
      go_enter Tryd.func23, Tryd.ntmps23
      go_wp2
      go_ret
      exact ⟨rfl, rfl⟩
end Go.Proofs.YtcfgnbiiegfenaaDoor
