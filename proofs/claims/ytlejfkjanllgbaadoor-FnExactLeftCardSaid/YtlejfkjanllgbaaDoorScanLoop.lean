/-
  impl.scan.places: the places of a scan, told to a yield one by one; and a loop over them, for whatever body.
-/
import Derived.Test.YtlejfkjanllgbaaDoorRows
import Derived.RangeFuncNested
import Derived.RangeFuncLeaves
import Derived.WalkKit
import Derived.OwnWalkIn
import Derived.TacticsInMore
import Derived.LoopNIn
import Derived.LoopIn
import Derived.Sort.CutIn
import Derived.Test.YtlejfkjanllgbaaDoorScanMath
namespace Go.Proofs.YtlejfkjanllgbaaDoor
open Go.RowKit
set_option linter.unusedVariables false
set_option maxRecDepth 20000
attribute [local go_sem] Oper.semAt_some

set_option maxHeartbeats 800000 in
/-- For whatever is kept of the rounds: J k holds when k places have come, Jx k when the round of the k-th has said no more. -/
theorem places_in (n : Nat) (sd : Nat) (hs : SideOk sd) (l : Nat) (J Jx : Nat → World → Prop)
    (hY : ∀ k W, k < sd * sd → J k W → YieldAt Fence.wide (n - 1) Tryd.prog l #[.int .i64 (k : Int), .int .i64 (scF sd k : Int)] W fun e W' => (e = .returned (.bool true) ∧ J (k + 1) W') ∨ (e = .returned (.bool false) ∧ Jx k W'))
    (W : World) (h0 : J 0 W) :
    CallsIn Fence.wide n Tryd.prog 108 #[.int .i64 (sd : Int), .func (.yield l) #[] #[]] W fun e W' => (∃ v, e = .returned v) ∧ (J (sd * sd) W' ∨ ∃ k, k < sd * sd ∧ Jx k W') := by
  have s1 : (4 : Int) ≤ (sd : Int) := by rcases hs with rfl | rfl <;> decide
  have s2 : (sd : Int) ≤ 8 := by rcases hs with rfl | rfl <;> decide
  obtain ⟨f1, f2, f3, f4⟩ := scan_facts hs
  have F2 : Hid (preF sd (2 * sd - 1) = sd * sd) := f2
  have F3 : Hid (∀ d, d < 2 * sd - 1 → preF sd (d + 1) = preF sd d + (mstF sd d - lstF sd d + 1) ∧ lstF sd d ≤ mstF sd d ∧ mstF sd d < sd ∧ mstF sd d ≤ d ∧ preF sd (d + 1) ≤ sd * sd) := f3
  have F4 : Hid (∀ d, d < 2 * sd - 1 → ∀ i, i < mstF sd d - lstF sd d + 1 → rowF sd d i < sd ∧ rowF sd d i ≤ d ∧ scF sd (preF sd d + i) = rowF sd d i * sd + d - rowF sd d i) := f4
  have q64 : sd * sd ≤ 64 := by rcases hs with rfl | rfl <;> decide
  clear f2 f3 f4
  refine callsIn_of_wp Tryd.func108 rfl trivial ?_ rfl
  simp only [Tryd.ntmps108, List.size_toArray, List.length_cons, List.length_nil, Nat.reduceAdd, Nat.reduceSub, Array.replicate_succ, Array.replicate_zero, List.push_toArray, List.append_toArray, List.nil_append, List.cons_append]
  gi_wp2
  gi_loopw [15, 5] (fun i k wr => ∃ d : Nat, d ≤ 2 * sd - 1 ∧ i = .int .i64 (d : Int) ∧ k = .int .i64 (preF sd d : Int) ∧ J (preF sd d) wr) (fun i _ _ => 2 * sd - 1 - (intOf i).toNat)
  case atStart => exact ⟨0, Nat.zero_le _, rfl, by rw [f1]; rfl, by rw [f1]; exact h0⟩
  case round =>
    obtain ⟨d, hd, rfl, rfl, hJ⟩ := hrel
    by_cases hlt : d < 2 * sd - 1
    · obtain ⟨g1, g2, g3, g4, g5⟩ := F3.out d hlt
      obtain ⟨ls, hls⟩ : ∃ ls, lstF sd d = ls := ⟨_, rfl⟩
      obtain ⟨ms, hms⟩ : ∃ ms, mstF sd d = ms := ⟨_, rfl⟩
      obtain ⟨p, hp⟩ : ∃ p, preF sd d = p := ⟨_, rfl⟩
      have e1 : (ls : Int) = 0 ∧ (d : Int) - (sd : Int) + 1 ≤ 0 ∨ (ls : Int) = (d : Int) - (sd : Int) + 1 ∧ 0 ≤ (d : Int) - (sd : Int) + 1 := by unfold lstF at hls; omega
      have e2 : (ms : Int) = (d : Int) ∧ (d : Int) ≤ (sd : Int) - 1 ∨ (ms : Int) = (sd : Int) - 1 ∧ (sd : Int) - 1 ≤ (d : Int) := by unfold mstF at hms; omega
      have E1 : Hid _ := e1
      have E2 : Hid _ := e2
      clear e1 e2
      have HR : Hid (∀ i, i < ms - ls + 1 → rowF sd d i < sd ∧ rowF sd d i ≤ d ∧ scF sd (p + i) = rowF sd d i * sd + d - rowF sd d i) := by
        have := F4.out d hlt
        rw [hls, hms, hp] at this
        exact this
      have G1 : Hid (preF sd (d + 1) = p + (ms - ls + 1)) := by rw [← hls, ← hms, ← hp]; exact g1
      rw [hls, hms] at g2
      rw [hms] at g3 g4
      rw [hp] at hJ
      have g5' : p + (ms - ls + 1) ≤ sd * sd := by rw [← G1.out]; exact g5
      have d0 : (0 : Int) ≤ (d : Int) := by omega
      have d1 : (d : Int) < 2 * (sd : Int) - 1 := by omega
      have p0 : (0 : Int) ≤ (p : Int) := by omega
      have p1 : (p : Int) ≤ 64 := by omega
      clear g1 g5
      rw [hp]
      gi_upto_region 5 with fail
      gi_cut [7, 8] from 18 (fun v7 v8 wc => v7 = .int .i64 (ls : Int) ∧ v8 = .int .i64 (ms : Int) ∧ wc = wr)
      case first =>
        gi_wp2_with fail
        all_goals
          gi_meet
          refine ⟨?_, ?_, rfl⟩
          · congr 1
            have := E1.out
            omega
          · congr 1
            have := E2.out
            omega
      case rest =>
      obtain ⟨rfl, rfl, rfl⟩ := hcut
      gi_wp2
      revert hJ
      generalize wc = wo
      intro hJ
      gi_loopw [31, 5] (fun i k wr => ∃ j : Nat, j ≤ ms - ls + 1 ∧ i = .int .i64 (j : Int) ∧ k = .int .i64 ((p + j : Nat) : Int) ∧ J (p + j) wr) (fun i _ _ => ms - ls + 1 - (intOf i).toNat)
      case atStart => exact ⟨0, Nat.zero_le _, rfl, rfl, hJ⟩
      case round =>
        obtain ⟨j, hj, rfl, rfl, hJ⟩ := hrel
        have j0 : (0 : Int) ≤ (j : Int) := by omega
        have j1 : (j : Int) ≤ (ms : Int) - (ls : Int) + 1 := by omega
        by_cases hjl : j < ms - ls + 1
        · obtain ⟨r1, r2, r3⟩ := HR.out j hjl
          obtain ⟨r, hr⟩ : ∃ r, rowF sd d j = r := ⟨_, rfl⟩
          rw [hr] at r1 r2 r3
          have j2 : (j : Int) < (ms : Int) - (ls : Int) + 1 := by omega
          obtain ⟨fn, tmps, assign, body, hy, hR⟩ := hY (p + j) wr (by omega) hJ
          obtain ⟨k, hk⟩ : ∃ k, p + j = k := ⟨_, rfl⟩
          rw [hk] at r3 hy hR ⊢
          have k0 : (0 : Int) ≤ (k : Int) := by omega
          have k1 : (k : Int) ≤ 64 := by omega
          have q1 : r * sd ≤ 64 := by
            have := Nat.mul_le_mul (Nat.le_of_lt r1) (Nat.le_refl sd)
            omega
          obtain ⟨q, hq⟩ : ∃ q, r * sd = q := ⟨_, rfl⟩
          have hq' : (r : Int) * (sd : Int) = (q : Int) := by rw [← hq]; exact (Int.natCast_mul r sd).symm
          rw [hq] at r3 q1
          have q0 : (q : Int) ≤ 64 := by omega
          have r0 : (0 : Int) ≤ (r : Int) := by omega
          have r4 : (r : Int) ≤ (d : Int) := by omega
          have r5 : (r : Int) < (sd : Int) := by omega
          have e3 : (q : Int) + (d : Int) - (r : Int) = (scF sd k : Int) := by omega
          rw [← e3] at hy
          clear hJ r3 e3 hq q1 r1 r2
          by_cases hev : d % 2 = 0
          · have hrow : (ms : Int) - (j : Int) = (r : Int) := by
              unfold rowF at hr
              rw [if_pos hev, hms] at hr
              omega
            have hev' : (d : Int) % 2 = 0 := by omega
            clear hr hev
            gi_wp2
            refine ⟨fun h => (by cases h), hR.mono ?_⟩
            rintro e W3 (⟨rfl, hJ3⟩ | ⟨rfl, hJ3⟩)
            · gi_wp2
              go_roundw
              case rel => exact ⟨j + 1, by omega, by go_num, by rw [← Nat.add_assoc, hk]; go_num, by rw [← Nat.add_assoc, hk]; exact hJ3⟩
              case measure => simp [intOf]; omega
            · gi_wp2
              refine bodyPost_ret (results_none rfl _ _ _) rfl ?_
              exact ⟨⟨_, rfl⟩, .inr ⟨k, by omega, hJ3⟩⟩
          · have hrow : (ls : Int) + (j : Int) = (r : Int) := by
              unfold rowF at hr
              rw [if_neg hev, hls] at hr
              omega
            have hev' : ¬ (d : Int) % 2 = 0 := by omega
            clear hr hev
            gi_wp2
            refine ⟨fun h => (by cases h), hR.mono ?_⟩
            rintro e W3 (⟨rfl, hJ3⟩ | ⟨rfl, hJ3⟩)
            · gi_wp2
              go_roundw
              case rel => exact ⟨j + 1, by omega, by go_num, by rw [← Nat.add_assoc, hk]; go_num, by rw [← Nat.add_assoc, hk]; exact hJ3⟩
              case measure => simp [intOf]; omega
            · gi_wp2
              refine bodyPost_ret (results_none rfl _ _ _) rfl ?_
              exact ⟨⟨_, rfl⟩, .inr ⟨k, by omega, hJ3⟩⟩
        · obtain rfl : j = ms - ls + 1 := by omega
          gi_wp2
          go_roundw
          case rel => exact ⟨d + 1, by omega, by go_num, by rw [G1.out], by rw [G1.out]; exact hJ⟩
          case measure => simp [intOf]; omega
    · obtain rfl : d = 2 * sd - 1 := by omega
      rw [F2.out] at hJ
      gi_wp2
      go_end0
      exact ⟨⟨_, rfl⟩, .inl hJ⟩
end Go.Proofs.YtlejfkjanllgbaaDoor
