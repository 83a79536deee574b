/-
  The order of a scan: which place comes as the k-th, told diagonal by diagonal.
  A list in the order of a scan, and out of it; as far as it has come.
  impl.scan.places: the places of a scan, told to a yield one by one; and a loop over them, for whatever body.
  A loop over the places of a scan: one round walked once, whatever the body keeps between two rounds.
  impl.scanOf, impl.ScanAt.
  impl.scanOver, impl.Scanned, impl.Unscanned.
  impl.Unscanned.
  impl.Scanned and impl.Unscanned of any list.
  spec.ScanAt.
  spec.Scanned, spec.Unscanned.
  spec.Scanned and spec.Unscanned of any list.
-/
import Derived.Test.YtlejfkjanllgbaaGreatDoorIntAll
import Derived.Test.YtlejfkjanllgbaaGreatDoorRows
import Derived.RangeFuncNested
import Derived.RangeFuncLeaves
import Derived.WalkKit
import Derived.OwnWalkIn
import Derived.TacticsInMore
import Derived.LoopNIn
import Derived.LoopIn
import Derived.Sort.CutIn
import Derived.BigRegionIn
import Derived.Test.YtlejfkjanllgbaaGreatDoorInKit
import Derived.Deep.RegionWith
import Derived.Deep.AppendLies
namespace Go.Proofs.YtlejfkjanllgbaaGreatDoor
set_option linter.unusedVariables false
set_option maxRecDepth 20000

def scan4 : List Nat := [0, 1, 4, 8, 5, 2, 3, 6, 9, 12, 13, 10, 7, 11, 14, 15]
def scan8 : List Nat := [0, 1, 8, 16, 9, 2, 3, 10, 17, 24, 32, 25, 18, 11, 4, 5, 12, 19, 26, 33, 40, 48, 41, 34, 27, 20, 13, 6, 7, 14, 21, 28, 35, 42, 49, 56, 57, 50, 43, 36, 29, 22, 15, 23, 30, 37, 44, 51, 58, 59, 52, 45, 38, 31, 39, 46, 53, 60, 61, 54, 47, 55, 62, 63]
def pre4 : List Nat := [0, 1, 3, 6, 10, 13, 15, 16]
def pre8 : List Nat := [0, 1, 3, 6, 10, 15, 21, 28, 36, 43, 49, 54, 58, 61, 63, 64]
/-- The side of a square that has a scan. -/
def SideOk (sd : Nat) : Prop := sd = 4 ∨ sd = 8
/-- The k-th place. -/
def scF (sd k : Nat) : Nat := (if sd = 4 then scan4 else scan8).getD k 0
/-- How many places come ahead of a diagonal. -/
def preF (sd d : Nat) : Nat := (if sd = 4 then pre4 else pre8).getD d 0
/-- The first and the last row of a diagonal. -/
def lstF (sd d : Nat) : Nat := d + 1 - sd
def mstF (sd d : Nat) : Nat := min d (sd - 1)
/-- The i-th row of a diagonal. -/
def rowF (sd d i : Nat) : Nat := if d % 2 = 0 then mstF sd d - i else lstF sd d + i

theorem scan_facts {sd : Nat} (hs : SideOk sd) : preF sd 0 = 0 ∧ preF sd (2 * sd - 1) = sd * sd ∧
    (∀ d, d < 2 * sd - 1 → preF sd (d + 1) = preF sd d + (mstF sd d - lstF sd d + 1) ∧ lstF sd d ≤ mstF sd d ∧ mstF sd d < sd ∧ mstF sd d ≤ d ∧ preF sd (d + 1) ≤ sd * sd) ∧
    (∀ d, d < 2 * sd - 1 → ∀ i, i < mstF sd d - lstF sd d + 1 → rowF sd d i < sd ∧ rowF sd d i ≤ d ∧ scF sd (preF sd d + i) = rowF sd d i * sd + d - rowF sd d i) := by
  rcases hs with rfl | rfl
  · refine ⟨rfl, rfl, by decide, by decide⟩
  · refine ⟨rfl, rfl, by decide +kernel, by decide +kernel⟩
theorem scF_lt {sd : Nat} (hs : SideOk sd) {k : Nat} (hk : k < sd * sd) : scF sd k < sd * sd := by
  have h : ∀ k, k < sd * sd → scF sd k < sd * sd := by
    rcases hs with rfl | rfl
    · decide
    · decide +kernel
  exact h k hk
theorem scF_inj {sd : Nat} (hs : SideOk sd) {j k : Nat} (hj : j < sd * sd) (hk : k < sd * sd) (h : scF sd j = scF sd k) : j = k := by
  have h' : ∀ j, j < sd * sd → ∀ k, k < sd * sd → scF sd j = scF sd k → j = k := by
    rcases hs with rfl | rfl
    · decide +kernel
    · decide +kernel
  exact h' j hj k hk h

/-- How far the counting has come ahead of the i-th row that is looked at in a diagonal (each row is looked at, and passed by where the diagonal has no place). -/
def lookF (sd d i : Nat) : Nat := if d % 2 = 0 then sd - 1 - i else i
def seenF (sd d i : Nat) : Nat := preF sd d + ((List.range i).filter (fun j => decide (lookF sd d j ≤ d) && decide (d - lookF sd d j ≤ sd - 1))).length
theorem seen_facts {sd : Nat} (hs : SideOk sd) : (∀ d, d < 2 * sd - 1 → seenF sd d 0 = preF sd d ∧ seenF sd d sd = preF sd (d + 1)) ∧
    (∀ d, d < 2 * sd - 1 → ∀ i, i < sd → lookF sd d i < sd ∧ seenF sd d i ≤ sd * sd ∧
      ((lookF sd d i ≤ d ∧ d - lookF sd d i ≤ sd - 1) → seenF sd d (i + 1) = seenF sd d i + 1 ∧ seenF sd d i < sd * sd ∧ scF sd (seenF sd d i) = sd * lookF sd d i + d - lookF sd d i) ∧
      (¬ (lookF sd d i ≤ d ∧ d - lookF sd d i ≤ sd - 1) → seenF sd d (i + 1) = seenF sd d i)) := by
  rcases hs with rfl | rfl
  · refine ⟨by decide +kernel, by decide +kernel⟩
  · refine ⟨by decide +kernel, by decide +kernel⟩
end Go.Proofs.YtlejfkjanllgbaaGreatDoor

namespace Go.Proofs.YtlejfkjanllgbaaGreatDoor
open Go.RowKit
set_option linter.unusedVariables false

def back4 : List Nat := [0, 1, 5, 6, 2, 4, 7, 12, 3, 8, 11, 13, 9, 10, 14, 15]
def back8 : List Nat := [0, 1, 5, 6, 14, 15, 27, 28, 2, 4, 7, 13, 16, 26, 29, 42, 3, 8, 12, 17, 25, 30, 41, 43, 9, 11, 18, 24, 31, 40, 44, 53, 10, 19, 23, 32, 39, 45, 52, 54, 20, 22, 33, 38, 46, 51, 55, 60, 21, 34, 37, 47, 50, 56, 59, 61, 35, 36, 48, 49, 57, 58, 62, 63]
/-- As which one a place comes. -/
def bkF (sd p : Nat) : Nat := (if sd = 4 then back4 else back8).getD p 9999
theorem bk_facts {sd : Nat} (hs : SideOk sd) : (∀ k, k < sd * sd → bkF sd (scF sd k) = k) ∧ (∀ p, p < sd * sd → bkF sd p < sd * sd ∧ scF sd (bkF sd p) = p) := by
  rcases hs with rfl | rfl
  · refine ⟨by decide +kernel, by decide +kernel⟩
  · refine ⟨by decide +kernel, by decide +kernel⟩
theorem bk_far {sd : Nat} (hs : SideOk sd) {p : Nat} (hp : sd * sd ≤ p) : bkF sd p = 9999 := by
  rcases hs with rfl | rfl
  · unfold bkF
    rw [if_pos rfl, List.getD_eq_getElem?_getD, List.getElem?_eq_none (by simp [back4]; omega)]
    rfl
  · unfold bkF
    rw [if_neg (by omega), List.getD_eq_getElem?_getD, List.getElem?_eq_none (by simp [back8]; omega)]
    rfl
theorem bk_iff {sd : Nat} (hs : SideOk sd) {k p : Nat} (hk : k < sd * sd) (h : bkF sd p = k) : p = scF sd k := by
  by_cases hp : p < sd * sd
  · have := ((bk_facts hs).2 p hp).2
    rw [h] at this
    exact this.symm
  · rw [bk_far hs (by omega)] at h
    have : sd * sd ≤ 64 := by rcases hs with rfl | rfl <;> decide
    omega

/-- Whether a list has a scan. -/
def scOk (s : Int) (xs : List Int) : Bool := (decide (s = 4) || decide (s = 8)) && decide ((xs.length : Int) = s * s)
def scanL (s : Int) (xs : List Int) : List Int := if scOk s xs = true then listF xs.length (fun i => xs.getD (scF s.toNat i) 0) else []
def backL (s : Int) (xs : List Int) : List Int := if scOk s xs = true then listF xs.length (fun i => xs.getD (bkF s.toNat i) 0) else []
theorem scOk_of {s : Int} {xs : List Int} (h : scOk s xs = true) : SideOk s.toNat ∧ s = (s.toNat : Int) ∧ xs.length = s.toNat * s.toNat := by
  unfold scOk at h
  simp only [Bool.and_eq_true, Bool.or_eq_true, decide_eq_true_eq] at h
  obtain ⟨h1, h2⟩ := h
  rcases h1 with rfl | rfl
  · exact ⟨.inl rfl, rfl, by show xs.length = 16; omega⟩
  · exact ⟨.inr rfl, rfl, by show xs.length = 64; omega⟩
theorem scanL_le (s : Int) (xs : List Int) : (scanL s xs).length ≤ 64 := by
  unfold scanL
  split
  · rename_i h
    obtain ⟨h1, _, h3⟩ := scOk_of h
    rw [listF_length, h3]
    rcases h1 with h | h <;> rw [h] <;> decide
  · simp
theorem backL_le (s : Int) (xs : List Int) : (backL s xs).length ≤ 64 := by
  unfold backL
  split
  · rename_i h
    obtain ⟨h1, _, h3⟩ := scOk_of h
    rw [listF_length, h3]
    rcases h1 with h | h <;> rw [h] <;> decide
  · simp

/-- As far as it has come: k places. -/
def scUp (sd : Nat) (xs : List Int) (k i : Nat) : Int := if i < k then xs.getD (scF sd i) 0 else 0
def bkUp (sd : Nat) (xs : List Int) (k i : Nat) : Int := if bkF sd i < k then xs.getD (bkF sd i) 0 else 0
theorem scUp_set (sd : Nat) (xs : List Int) (n k : Nat) : ((listF n (scUp sd xs k)).map (Value.int .i64)).set k (.int .i64 (xs.getD (scF sd k) 0)) = (listF n (scUp sd xs (k + 1))).map (Value.int .i64) := by
  unfold listF
  rw [List.map_map, List.map_map]
  have e : Value.int .i64 (xs.getD (scF sd k) 0) = (Value.int .i64 ∘ scUp sd xs (k + 1)) k := by simp [scUp]
  rw [e]
  refine int_range_set n k _ _ (fun i hi => ?_)
  simp only [Function.comp, scUp]
  by_cases h : i < k
  · rw [if_pos h, if_pos (by omega)]
  · rw [if_neg h, if_neg (by omega)]
theorem bkUp_set {sd : Nat} (hs : SideOk sd) (xs : List Int) (n k : Nat) (hk : k < sd * sd) : ((listF n (bkUp sd xs k)).map (Value.int .i64)).set (scF sd k) (.int .i64 (xs.getD k 0)) = (listF n (bkUp sd xs (k + 1))).map (Value.int .i64) := by
  unfold listF
  rw [List.map_map, List.map_map]
  have e : Value.int .i64 (xs.getD k 0) = (Value.int .i64 ∘ bkUp sd xs (k + 1)) (scF sd k) := by simp [bkUp, (bk_facts hs).1 k hk]
  rw [e]
  refine int_range_set n (scF sd k) _ _ (fun i hi => ?_)
  simp only [Function.comp, bkUp]
  have hne : bkF sd i ≠ k := fun h => hi (bk_iff hs hk h)
  by_cases h : bkF sd i < k
  · rw [if_pos h, if_pos (by omega)]
  · rw [if_neg h, if_neg (by omega)]
theorem scUp_made (sd : Nat) (xs : List Int) (n : Nat) : (madeCells (Value.int .i64 0).cells (n * 1)).toList = (listF n (scUp sd xs 0)).map (Value.int .i64) := by
  rw [int_made]
  unfold listF
  rw [List.map_map]
  apply List.map_congr_left
  intro i _
  simp [scUp]
theorem bkUp_made (sd : Nat) (xs : List Int) (n : Nat) : (madeCells (Value.int .i64 0).cells (n * 1)).toList = (listF n (bkUp sd xs 0)).map (Value.int .i64) := by
  rw [int_made]
  unfold listF
  rw [List.map_map]
  apply List.map_congr_left
  intro i _
  simp [bkUp]
theorem scUp_full (sd : Nat) (xs : List Int) (n : Nat) : listF n (scUp sd xs n) = listF n (fun i => xs.getD (scF sd i) 0) := listF_congr fun i hi => by
  unfold scUp
  rw [if_pos hi]
theorem bkUp_full {sd : Nat} (hs : SideOk sd) (xs : List Int) : listF (sd * sd) (bkUp sd xs (sd * sd)) = listF (sd * sd) (fun i => xs.getD (bkF sd i) 0) := listF_congr fun i hi => by
  unfold bkUp
  rw [if_pos ((bk_facts hs).2 i hi).1]
end Go.Proofs.YtlejfkjanllgbaaGreatDoor

namespace Go.Proofs.YtlejfkjanllgbaaGreatDoor
open Go.RowKit
set_option linter.unusedVariables false
attribute [local go_sem] Oper.semAt_some

set_option maxHeartbeats 800000 in
/-- For whatever is kept of the rounds: J k holds when k places have come, Jx k when the round of the k-th has said no more. -/
theorem places_in (n : Nat) (sd : Nat) (hs : SideOk sd) (l : Nat) (J Jx : Nat → World → Prop)
    (hY : ∀ k W, k < sd * sd → J k W → YieldAt Fence.wide (n - 1) Tryz.prog l #[.int .i64 (k : Int), .int .i64 (scF sd k : Int)] W fun e W' => (e = .returned (.bool true) ∧ J (k + 1) W') ∨ (e = .returned (.bool false) ∧ Jx k W'))
    (W : World) (h0 : J 0 W) :
    CallsIn Fence.wide n Tryz.prog 85 #[.int .i64 (sd : Int), .func (.yield l) #[] #[]] W fun e W' => (∃ v, e = .returned v) ∧ (J (sd * sd) W' ∨ ∃ k, k < sd * sd ∧ Jx k W') := by
  have s1 : (4 : Int) ≤ (sd : Int) := by rcases hs with rfl | rfl <;> decide
  have s2 : (sd : Int) ≤ 8 := by rcases hs with rfl | rfl <;> decide
  obtain ⟨f1, f2, f3, f4⟩ := scan_facts hs
  have F2 : Hid (preF sd (2 * sd - 1) = sd * sd) := f2
  have F3 : Hid (∀ d, d < 2 * sd - 1 → preF sd (d + 1) = preF sd d + (mstF sd d - lstF sd d + 1) ∧ lstF sd d ≤ mstF sd d ∧ mstF sd d < sd ∧ mstF sd d ≤ d ∧ preF sd (d + 1) ≤ sd * sd) := f3
  have F4 : Hid (∀ d, d < 2 * sd - 1 → ∀ i, i < mstF sd d - lstF sd d + 1 → rowF sd d i < sd ∧ rowF sd d i ≤ d ∧ scF sd (preF sd d + i) = rowF sd d i * sd + d - rowF sd d i) := f4
  have q64 : sd * sd ≤ 64 := by rcases hs with rfl | rfl <;> decide
  clear f2 f3 f4
  refine callsIn_of_wp Tryz.func85 rfl trivial ?_ rfl
  simp only [Tryz.ntmps85, List.size_toArray, List.length_cons, List.length_nil, Nat.reduceAdd, Nat.reduceSub, Array.replicate_succ, Array.replicate_zero, List.push_toArray, List.append_toArray, List.nil_append, List.cons_append]
  gi_wp2
  gi_loopw [15, 5] (fun i k wr => ∃ d : Nat, d ≤ 2 * sd - 1 ∧ i = .int .i64 (d : Int) ∧ k = .int .i64 (preF sd d : Int) ∧ J (preF sd d) wr) (fun i _ _ => 2 * sd - 1 - (intOf i).toNat)
  case atStart => exact ⟨0, Nat.zero_le _, rfl, by rw [f1]; rfl, by rw [f1]; exact h0⟩
  case round =>
    obtain ⟨d, hd, rfl, rfl, hJ⟩ := hrel
    by_cases hlt : d < 2 * sd - 1
    · obtain ⟨g1, g2, g3, g4, g5⟩ := F3.out d hlt
      obtain ⟨ls, hls⟩ : ∃ ls, lstF sd d = ls := ⟨_, rfl⟩
      obtain ⟨ms, hms⟩ : ∃ ms, mstF sd d = ms := ⟨_, rfl⟩
      obtain ⟨p, hp⟩ : ∃ p, preF sd d = p := ⟨_, rfl⟩
      have e1 : (ls : Int) = 0 ∧ (d : Int) - (sd : Int) + 1 ≤ 0 ∨ (ls : Int) = (d : Int) - (sd : Int) + 1 ∧ 0 ≤ (d : Int) - (sd : Int) + 1 := by unfold lstF at hls; omega
      have e2 : (ms : Int) = (d : Int) ∧ (d : Int) ≤ (sd : Int) - 1 ∨ (ms : Int) = (sd : Int) - 1 ∧ (sd : Int) - 1 ≤ (d : Int) := by unfold mstF at hms; omega
      have E1 : Hid _ := e1
      have E2 : Hid _ := e2
      clear e1 e2
      have HR : Hid (∀ i, i < ms - ls + 1 → rowF sd d i < sd ∧ rowF sd d i ≤ d ∧ scF sd (p + i) = rowF sd d i * sd + d - rowF sd d i) := by
        have := F4.out d hlt
        rw [hls, hms, hp] at this
        exact this
      have G1 : Hid (preF sd (d + 1) = p + (ms - ls + 1)) := by rw [← hls, ← hms, ← hp]; exact g1
      rw [hls, hms] at g2
      rw [hms] at g3 g4
      rw [hp] at hJ
      have g5' : p + (ms - ls + 1) ≤ sd * sd := by rw [← G1.out]; exact g5
      have d0 : (0 : Int) ≤ (d : Int) := by omega
      have d1 : (d : Int) < 2 * (sd : Int) - 1 := by omega
      have p0 : (0 : Int) ≤ (p : Int) := by omega
      have p1 : (p : Int) ≤ 64 := by omega
      clear g1 g5
      rw [hp]
      gi_upto_region 5 with fail
      gi_cut [7, 8] from 18 (fun v7 v8 wc => v7 = .int .i64 (ls : Int) ∧ v8 = .int .i64 (ms : Int) ∧ wc = wr)
      case first =>
        gi_wp2_with fail
        all_goals
          gi_meet
          refine ⟨?_, ?_, rfl⟩
          · congr 1
            have := E1.out
            omega
          · congr 1
            have := E2.out
            omega
      case rest =>
      obtain ⟨rfl, rfl, rfl⟩ := hcut
      gi_wp2
      revert hJ
      generalize wc = wo
      intro hJ
      gi_loopw [31, 5] (fun i k wr => ∃ j : Nat, j ≤ ms - ls + 1 ∧ i = .int .i64 (j : Int) ∧ k = .int .i64 ((p + j : Nat) : Int) ∧ J (p + j) wr) (fun i _ _ => ms - ls + 1 - (intOf i).toNat)
      case atStart => exact ⟨0, Nat.zero_le _, rfl, rfl, hJ⟩
      case round =>
        obtain ⟨j, hj, rfl, rfl, hJ⟩ := hrel
        have j0 : (0 : Int) ≤ (j : Int) := by omega
        have j1 : (j : Int) ≤ (ms : Int) - (ls : Int) + 1 := by omega
        by_cases hjl : j < ms - ls + 1
        · obtain ⟨r1, r2, r3⟩ := HR.out j hjl
          obtain ⟨r, hr⟩ : ∃ r, rowF sd d j = r := ⟨_, rfl⟩
          rw [hr] at r1 r2 r3
          have j2 : (j : Int) < (ms : Int) - (ls : Int) + 1 := by omega
          obtain ⟨fn, tmps, assign, body, hy, hR⟩ := hY (p + j) wr (by omega) hJ
          obtain ⟨k, hk⟩ : ∃ k, p + j = k := ⟨_, rfl⟩
          rw [hk] at r3 hy hR ⊢
          have k0 : (0 : Int) ≤ (k : Int) := by omega
          have k1 : (k : Int) ≤ 64 := by omega
          have q1 : r * sd ≤ 64 := by
            have := Nat.mul_le_mul (Nat.le_of_lt r1) (Nat.le_refl sd)
            omega
          obtain ⟨q, hq⟩ : ∃ q, r * sd = q := ⟨_, rfl⟩
          have hq' : (r : Int) * (sd : Int) = (q : Int) := by rw [← hq]; exact (Int.natCast_mul r sd).symm
          rw [hq] at r3 q1
          have q0 : (q : Int) ≤ 64 := by omega
          have r0 : (0 : Int) ≤ (r : Int) := by omega
          have r4 : (r : Int) ≤ (d : Int) := by omega
          have r5 : (r : Int) < (sd : Int) := by omega
          have e3 : (q : Int) + (d : Int) - (r : Int) = (scF sd k : Int) := by omega
          rw [← e3] at hy
          clear hJ r3 e3 hq q1 r1 r2
          by_cases hev : d % 2 = 0
          · have hrow : (ms : Int) - (j : Int) = (r : Int) := by
              unfold rowF at hr
              rw [if_pos hev, hms] at hr
              omega
            have hev' : (d : Int) % 2 = 0 := by omega
            clear hr hev
            gi_wp2
            refine ⟨fun h => (by cases h), hR.mono ?_⟩
            rintro e W3 (⟨rfl, hJ3⟩ | ⟨rfl, hJ3⟩)
            · gi_wp2
              go_roundw
              case rel => exact ⟨j + 1, by omega, by go_num, by rw [← Nat.add_assoc, hk]; go_num, by rw [← Nat.add_assoc, hk]; exact hJ3⟩
              case measure => simp [intOf]; omega
            · gi_wp2
              refine bodyPost_ret (results_none rfl _ _ _) rfl ?_
              exact ⟨⟨_, rfl⟩, .inr ⟨k, by omega, hJ3⟩⟩
          · have hrow : (ls : Int) + (j : Int) = (r : Int) := by
              unfold rowF at hr
              rw [if_neg hev, hls] at hr
              omega
            have hev' : ¬ (d : Int) % 2 = 0 := by omega
            clear hr hev
            gi_wp2
            refine ⟨fun h => (by cases h), hR.mono ?_⟩
            rintro e W3 (⟨rfl, hJ3⟩ | ⟨rfl, hJ3⟩)
            · gi_wp2
              go_roundw
              case rel => exact ⟨j + 1, by omega, by go_num, by rw [← Nat.add_assoc, hk]; go_num, by rw [← Nat.add_assoc, hk]; exact hJ3⟩
              case measure => simp [intOf]; omega
            · gi_wp2
              refine bodyPost_ret (results_none rfl _ _ _) rfl ?_
              exact ⟨⟨_, rfl⟩, .inr ⟨k, by omega, hJ3⟩⟩
        · obtain rfl : j = ms - ls + 1 := by omega
          gi_wp2
          go_roundw
          case rel => exact ⟨d + 1, by omega, by go_num, by rw [G1.out], by rw [G1.out]; exact hJ⟩
          case measure => simp [intOf]; omega
    · obtain rfl : d = 2 * sd - 1 := by omega
      rw [F2.out] at hJ
      gi_wp2
      go_end0
      exact ⟨⟨_, rfl⟩, .inl hJ⟩
end Go.Proofs.YtlejfkjanllgbaaGreatDoor

namespace Go.Proofs.YtlejfkjanllgbaaGreatDoor
open Go.RowKit
set_option linter.unusedVariables false

/-- How the round of the k-th place is left: it goes on, or it returns. -/
def roundEnd (B : Nat) (I Ix : Nat → World → Prop) (k : Nat) (W : World) : Exit → Act → World → Prop
  | .normal, _, W' => KeepsFrom B W W' ∧ I (k + 1) W'
  | .ret, _, W' => KeepsFrom B W W' ∧ Ix k W'
  | _, _, _ => False

theorem scanLoop {n : Nat} {g : Operand} {ps : Array Tmp} {assign body : Code} {Q : Exit → Act → World → Prop} {a : Act} {w : World} (sd : Nat) (hs : SideOk sd)
    (hg : a.eval g = .func (.func 85) #[.int .i64 (sd : Int)] #[]) (hps : ps.size = 2) (I Ix : Nat → World → Prop) (hI : OwnFrom w.heap.size I) (hIx : OwnFrom w.heap.size Ix) (h0 : I 0 w) (a₁ : Nat → Act)
    (hassign : ∀ (l k : Nat) (W : World) (K : Act → World → Prop), K (a₁ k) W → assign.wpIn (Fence.wide.inRound l) (n - 1 - 1) Tryz.prog (Exit.then K (fun _ _ _ => False))
      { tmps := (ps.zip #[.int .i64 (k : Int), .int .i64 (scF sd k : Int)]).foldl (fun t (p, v) => t.setIfInBounds p v) a.tmps, defers := [] } W)
    (hbody : ∀ (l k : Nat) (W : World), k < sd * sd → I k W → body.wpIn (Fence.wide.inRound l) (n - 1 - 1) Tryz.prog (roundEnd w.heap.size I Ix k W) (a₁ k) W)
    (hdone : ∀ (D : Nat) (W : World), w.heap.size ≤ D → I (sd * sd) W → W.heap[D]? = some (.deferred (some [])) → Q .normal { a with defers := { target := .collected D, args := #[] } :: a.defers } W)
    (hstop : ∀ (D k : Nat) (W : World), w.heap.size ≤ D → k < sd * sd → Ix k W → W.heap[D]? = some (.deferred (some [])) → Code.ret.wpIn Fence.wide n Tryz.prog Q { a with defers := { target := .collected D, args := #[] } :: a.defers } W) :
    (Code.rangeFunc g ps assign body).wpIn Fence.wide n Tryz.prog Q a w := by
  refine wpIn_rangeFunc fun fn _ => ?_
  generalize hB : w.heap.size = B at *
  -- the loop's record, and the two blocks that the statement lays
  let rc : LoopState → Option Code → Loop := fun st pe => { state := st, pending := pe, fn, tmps := a.tmps, params := ps, assign, body, defers := B }
  have hsz : (w.alloc (.deferred (some []))).heap.size = B + 1 := by rw [World.size_alloc, hB]
  let V := (w.alloc (.deferred (some []))).alloc (.loop (rc .ready none))
  have v1 : V.heap[B + 1]? = some (.loop (rc .ready none)) := by
    have := World.alloc_heap_new (w.alloc (.deferred (some []))) (.loop (rc .ready none))
    rwa [hsz] at this
  have v0 : V.heap[B]? = some (.deferred (some [])) := by
    refine (Below.heap_alloc _ _ _ (by rw [hsz]; omega)).trans ?_
    have := World.alloc_heap_new w (.deferred (some []))
    rwa [hB] at this
  have vI : I 0 V := hI.alloc _ (hI.alloc _ h0)
  refine ⟨B + 1, [{ target := .collected B, args := #[] }], V, { target := .fn (.func 85) #[], args := #[.int .i64 (sd : Int), .func (.yield (B + 1)) #[] #[]] }, V, 85,
    #[.int .i64 (sd : Int), .func (.yield (B + 1)) #[] #[]], V, ?_, ?_, fun _ _ => trivial, ?_, fun h => (by cases h), ?_⟩
  · have := run_enterLoop_outer (w := w) (P := Tryz.prog) fn a.tmps ps assign body
    rw [hB] at this
    exact this
  · simp only [resolve, hg]
    simp [go_sem]
  · simp [invoke, go_sem]
  · refine (places_in (n - 1) sd hs (B + 1) (fun k W => I k W ∧ W.heap[B + 1]? = some (.loop (rc .ready none)) ∧ W.heap[B]? = some (.deferred (some [])))
      (fun k W => Ix k W ∧ W.heap[B + 1]? = some (.loop (rc .done (some .ret))) ∧ W.heap[B]? = some (.deferred (some []))) ?_ V ⟨vI, v1, v0⟩).mono ?_
    · -- one round
      rintro k W hk ⟨wi, w1, w0⟩
      have hy := run_yield (P := Tryz.prog) (args := #[.int .i64 (k : Int), .int .i64 (scF sd k : Int)]) w1 hps.symm
      refine ⟨_, _, _, _, hy, roundIn_of_wpIn trivial (hassign _ k W _ ⟨_, run_beginRound w1 rfl, ?_⟩)⟩
      clear hy
      have hlt : B + 1 < W.heap.size := (Array.getElem?_eq_some_iff.1 w1).1
      generalize hU : W.putObj (B + 1) (.loop { rc .ready none with state := .busy }) = U
      have u1 : U.heap[B + 1]? = some (.loop { rc .ready none with state := .busy }) := by rw [← hU]; exact World.putObj_heap_same hlt
      have u0 : U.heap[B]? = some (.deferred (some [])) := by rw [← hU]; exact (World.putObj_heap_other (by omega)).trans w0
      have uI : I k U := by rw [← hU]; exact hI.putObj _ wi (by omega) w1 rfl
      refine wpIn_mono (hbody _ k U hk uI) ?_
      have close : ∀ (jump : Option Code) (X : World), KeepsFrom B U X → ∃ Y, (Instr.endRound (B + 1) jump).run Tryz.prog X = .ok (.bool jump.isNone) Y ∧ Y = X.putObj (B + 1) (.loop (rc (if jump.isNone then .ready else .done) jump)) ∧
          X.heap[B + 1]? = some (.loop { rc .ready none with state := .busy }) ∧ Y.heap[B + 1]? = some (.loop (rc (if jump.isNone then .ready else .done) jump)) ∧ Y.heap[B]? = some (.deferred (some [])) := by
        intro jump X hkX
        have x1 := hkX.same _ _ (by omega) u1 rfl
        have x0 := hkX.same _ _ (Nat.le_refl _) u0 rfl
        exact ⟨_, run_endRound jump x1, rfl, x1, World.putObj_heap_same (Array.getElem?_eq_some_iff.1 x1).1, (World.putObj_heap_other (by omega)).trans x0⟩
      intro e a3 X hp
      cases e with
      | normal =>
        obtain ⟨hkX, hX⟩ := hp
        obtain ⟨Y, hr, rfl, x1, y1, y0⟩ := close none X hkX
        exact ⟨_, _, hr, .inl ⟨rfl, hI.putObj _ hX (by omega) x1 rfl, y1, y0⟩⟩
      | ret =>
        obtain ⟨hkX, hX⟩ := hp
        obtain ⟨Y, hr, rfl, x1, y1, y0⟩ := close (some .ret) X hkX
        exact ⟨_, _, hr, .inr ⟨rfl, hIx.putObj _ hX (by omega) x1 rfl, y1, y0⟩⟩
      | exit id => exact hp.elim
      | goto t => exact hp.elim
      | panic ch => exact hp.elim
      | outgrown => exact hp.elim
    · -- behind the last round
      rintro e X ⟨⟨v, rfl⟩, (⟨hX, x1, x0⟩ | ⟨k, hk, hX, x1, x0⟩)⟩
      · exact ⟨none, _, run_endLoop x1 (by intro h; cases h), hdone B _ (Nat.le_refl _) (hI.putObj _ hX (by omega) x1 rfl) ((World.putObj_heap_other (by omega)).trans x0)⟩
      · exact ⟨some .ret, _, run_endLoop x1 (by intro h; cases h), hstop B k _ (Nat.le_refl _) hk (hIx.putObj _ hX (by omega) x1 rfl) ((World.putObj_heap_other (by omega)).trans x0)⟩
end Go.Proofs.YtlejfkjanllgbaaGreatDoor

namespace Go.Proofs.YtlejfkjanllgbaaGreatDoor
open Go.RowKit
set_option linter.unusedVariables false
attribute [local go_sem] Oper.semAt_some

theorem scanOf_any (s : Int) (w : World) : Calls Tryz.prog 106 #[.int .i64 s] w fun e w' => e = .returned (.tuple #[.int .i64 s, .bool (decide (s = 4) || decide (s = 8))]) ∧ w' = w := by
  by_cases h1 : s = 4
  · subst h1
    go_enter Tryz.func106, Tryz.ntmps106
    go_wp2
    all_goals go_ret2
    all_goals exact ⟨rfl, rfl⟩
  · by_cases h2 : s = 8
    · subst h2
      go_enter Tryz.func106, Tryz.ntmps106
      go_wp2
      all_goals go_ret2
      all_goals exact ⟨rfl, rfl⟩
    · have e1 : (decide (s = 4) || decide (s = 8)) = false := by simp [h1, h2]
      rw [e1]
      have q1 : (s == 4) = false := by rw [beq_eq_false_iff_ne]; exact h1
      have q2 : (s == 8) = false := by rw [beq_eq_false_iff_ne]; exact h2
      go_enter Tryz.func106, Tryz.ntmps106
      go_wp2
      all_goals go_ret2
      all_goals exact ⟨by simp, rfl⟩
theorem side_yes {sd : Nat} (hs : SideOk sd) : (decide ((sd : Int) = 4) || decide ((sd : Int) = 8)) = true := by rcases hs with rfl | rfl <;> rfl

/-- What ScanAt answers. -/
def atF (s k : Int) : Int := if (s = 4 ∨ s = 8) ∧ 0 ≤ k ∧ k < s * s then (scF s.toNat k.toNat : Int) else -1

end Go.Proofs.YtlejfkjanllgbaaGreatDoor

namespace Go.Proofs.YtlejfkjanllgbaaGreatDoor
open Go.RowKit
set_option linter.unusedVariables false
attribute [local go_sem] Oper.semAt_some

theorem makeFullIn {n : Nat} (w : World) {ops : Array Oper} {rest : List Oper} {o : Oper} {a : Act} {Q : Exit → Act → World → Prop}
    (hg : o.guard = none) (l c : Operand) (hop : o.op = Op.makeSlice 24 l c) (B L : Nat)
    (hl : a.eval l = .int .i64 (L : Int)) (hc : a.eval c = .int .i64 (L : Int)) (b2 : L ≤ 1000000) (b4 : B ≤ w.heap.size)
    (hK : ∀ w', w'.ownsRow B 3 1 (.slice (some ⟨w.heap.size, 0, none⟩) L L) L (madeCells (Value.int .i64 0).cells (L * 1)).toList → w.grownBy w' none → wpListIn Fence.wide n Tryz.prog ops Q rest (a.put o.dst (.slice (some ⟨w.heap.size, 0, none⟩) L L)) w') :
    wpListIn Fence.wide n Tryz.prog ops Q (o :: rest) a w := by
  obtain ⟨i0, hi0, hz0, hz1, hz2⟩ := info_parts infoI
  obtain ⟨w', hrun, r1, r2⟩ := run_make_full (P := Tryz.prog) w B 24 3 i0 (.int .i64 0) 1 Tryz.underlying24 hi0 hz0 hz1 .i64 .i64 L (by rw [hz2]; omega) (by unfold maxLen; omega) b4
  refine wpListIn_plain hg fun K hK' => ?_
  unfold Oper.wpIn
  refine ⟨?_, ?_⟩
  · simp [Oper.about, hop]
  · rw [Oper.semAt_plain Fence.wide _ _ (by rw [hop]; intro c hc'; cases hc')]
    simp [execOp, hop, hl, hc, hrun, Result.andThen]
    exact hK' _ _ (hK w' r1 r2)

theorem row_abides {β : Type} (B g n c : Nat) (f : β → List Value) : Own (fun s W => W.ownsRow B 3 1 (.slice (some ⟨g, 0, none⟩) n c) n (f s)) := by
  intro s X Y row hs hg hr
  refine hs.kept hg ?_
  cases row with
  | none => exact .inr (by simp [Value.ownBlock])
  | some r =>
    refine .inr fun e => ?_
    have e' : g = r := by simpa [Value.ownBlock] using e
    subst e'
    obtain ⟨o, ho, hc⟩ := hr _ rfl
    rcases hs.2 with ⟨e1, _⟩ | ⟨g', cap, cur, e1, _, hgb, _⟩
    · cases e1
    · cases e1
      rw [hgb] at ho
      cases ho
      cases hc

theorem KeepsFrom.drew {B : Nat} {W W' : World} (h : KeepsFrom B W W') : KeepsFrom B W W'.drew := ⟨h.size, h.same⟩

theorem scanOver_any (s : Int) (a : Option Addr) (n cap : Nat) (w : World) (hn : n ≤ maxLen) :
    Calls Tryz.prog 84 #[.int .i64 s, .slice a n cap] w fun e w' => e = .returned (.tuple #[.int .i64 s, .bool ((decide (s = 4) || decide (s = 8)) && decide ((n : Int) = s * s))]) ∧ w' = w := by
  have hn' : (n : Int) ≤ 9223372036854775807 := by unfold maxLen at hn; omega
  by_cases hs : s = 4 ∨ s = 8
  · have CO := scanOf_any s
    have e1 : (decide (s = 4) || decide (s = 8)) = true := by simpa using hs
    rw [e1] at CO ⊢
    have HC : Hid (∀ w', Calls Tryz.prog 106 #[.int .i64 s] w' (fun e w'' => e = .returned (.tuple #[.int .i64 s, .bool true]) ∧ w'' = w')) := CO
    clear CO e1
    rcases hs with rfl | rfl
    · go_enter Tryz.func84, Tryz.ntmps84
      go_wp2_with (go_at_call 106; refine (HC.out _).mono ?_; rintro e w' ⟨rfl, hw⟩; subst w')
      all_goals go_ret2
      all_goals exact ⟨by simp [Bool.beq_eq_decide_eq], rfl⟩
    · go_enter Tryz.func84, Tryz.ntmps84
      go_wp2_with (go_at_call 106; refine (HC.out _).mono ?_; rintro e w' ⟨rfl, hw⟩; subst w')
      all_goals go_ret2
      all_goals exact ⟨by simp [Bool.beq_eq_decide_eq], rfl⟩
  · have CO := scanOf_any s
    have e1 : (decide (s = 4) || decide (s = 8)) = false := by simp; omega
    rw [e1] at CO ⊢
    have HC : Hid (∀ w', Calls Tryz.prog 106 #[.int .i64 s] w' (fun e w'' => e = .returned (.tuple #[.int .i64 s, .bool false]) ∧ w'' = w')) := CO
    clear CO e1 hs
    go_enter Tryz.func84, Tryz.ntmps84
    go_wp2_with (go_at_call 106; refine (HC.out _).mono ?_; rintro e w' ⟨rfl, hw⟩; subst w')
    all_goals go_ret2
    all_goals exact ⟨by simp, rfl⟩

set_option maxHeartbeats 1600000 in
theorem implScanned_yes (sd : Nat) (hs : SideOk sd) (a : Option Addr) (cap : Nat) (xs : List Int) (w : World) (h : Ints w a xs) (hl : xs.length = sd * sd) :
    Calls Tryz.prog 57 #[.int .i64 (sd : Int), .slice a xs.length cap] w fun e w' => (∃ v, e = .returned (.tuple #[v, .bool true]) ∧ w'.ownsRow w.heap.size 3 1 v xs.length ((listF xs.length (fun i => xs.getD (scF sd i) 0)).map (Value.int .i64))) ∧ Below w.heap.size w w' := by
  have q64 : sd * sd ≤ 64 := by rcases hs with rfl | rfl <;> decide
  have CO := scanOver_any (sd : Int) a xs.length cap
  rw [show ((decide ((sd : Int) = 4) || decide ((sd : Int) = 8)) && decide ((xs.length : Int) = (sd : Int) * (sd : Int))) = true by rw [side_yes hs, Bool.true_and, decide_eq_true_eq, hl]; exact Int.natCast_mul sd sd] at CO
  obtain ⟨N, hN⟩ : ∃ N, xs.length = N := ⟨_, rfl⟩
  rw [hN] at CO hl ⊢
  have HC : Hid (∀ w', Calls Tryz.prog 84 #[.int .i64 (sd : Int), .slice a N cap] w' (fun e w'' => e = .returned (.tuple #[.int .i64 (sd : Int), .bool true]) ∧ w'' = w')) := fun w' => CO w' (by unfold maxLen; omega)
  have HN : Hid (xs.length = N) := hN
  have HL : Hid (N = sd * sd) := hl
  have H : Hid (Ints w a xs) := h
  have n64 : (N : Int) ≤ 64 := by omega
  clear CO hN h hl q64
  refine (callsIn_wide (n := 3)).1 ?_
  refine callsIn_of_wp_marks Tryz.func57 rfl trivial ?_ rfl
  simp only [Tryz.ntmps57, List.size_toArray, List.length_cons, List.length_nil, Nat.reduceAdd, Nat.reduceSub, Array.replicate_succ, Array.replicate_zero, List.push_toArray, List.append_toArray, List.nil_append, List.cons_append]
  have bL := Boxed.new w 24 (.slice a N cap)
  have cL := bL.cell
  have hb0 : Below w.heap.size w (w.alloc (.cells #[.slice a N cap] 24)) := (Below.refl _ w).alloc (Nat.le_refl _) _
  gi_wp2_with (first
    | (refine ⟨trivial, ?_⟩; gi_at_call 84; refine (callsIn_wide.2 (HC.out _)).mono ?_; rintro e w' ⟨rfl, hw⟩; subst w')
    | (gi_at_make; refine makeFullIn _ (by rfl) _ _ (by rfl) w.heap.size N (by rfl) (by rfl) (by omega) (by simp) ?_; intro w2 hown0 hgrow0; have hb2 := hb0.grown hgrow0 (by simp) (fun j hj => by cases hj); have bL2 := bL.kept hgrow0 (by simp)))
  rw [scUp_made sd xs] at hown0
  have hown1 := hown0
  rw [World.size_alloc] at hown1
  generalize hV : w2.alloc (.cells #[.slice (some ⟨w.heap.size + 1, 0, none⟩) N N] 24) = V
  have bS : Boxed V w2.heap.size 24 (.slice (some ⟨w.heap.size + 1, 0, none⟩) N N) := by rw [← hV]; exact Boxed.new w2 _ _
  have bA : Boxed V w.heap.size 24 (.slice a N cap) := by rw [← hV]; exact bL2.alloc _
  have hb3 : Below w.heap.size w V := by rw [← hV]; exact hb2.alloc hb2.size _
  have ho3 : V.ownsRow w.heap.size 3 1 (.slice (some ⟨w.heap.size + 1, 0, none⟩) N N) N ((listF N (scUp sd xs 0)).map (Value.int .i64)) := by rw [← hV]; exact hown1.alloc _
  have hsz : V.heap.size = w2.heap.size + 1 := by rw [← hV]; simp
  have hs2 : w.heap.size + 1 < w2.heap.size := by have := (hown1.lt _ rfl).2; omega
  clear hV hown0 hown1 hgrow0 hb2 bL2 bL cL hb0
  generalize w2.heap.size = S at *
  apply scanLoop sd hs rfl rfl
    (fun j W => ((Boxed W w.heap.size 24 (.slice a N cap) ∧ Boxed W S 24 (.slice (some ⟨w.heap.size + 1, 0, none⟩) N N)) ∧ W.ownsRow w.heap.size 3 1 (.slice (some ⟨w.heap.size + 1, 0, none⟩) N N) N ((listF N (scUp sd xs j)).map (Value.int .i64))) ∧ Below w.heap.size w W)
    (fun _ _ => False)
    (OwnFrom.and (Own.from (fun s A B row h hg hr => ⟨⟨boxed_own _ 24 (fun _ : Unit => .slice a N cap) () A B row h.1.1 hg hr, boxed_own _ 24 (fun _ : Unit => .slice (some ⟨w.heap.size + 1, 0, none⟩) N N) () A B row h.1.2 hg hr⟩, row_abides _ _ _ _ (fun j => (listF N (scUp sd xs j)).map (Value.int .i64)) s A B row h.2 hg hr⟩) _) (ownFrom_below (Nat.le_refl _) (by omega)))
    (fun _ _ _ _ h _ _ => h)
    ⟨⟨⟨bA, bS⟩, ho3⟩, hb3⟩
  case hassign =>
    intro l j W K hK
    gi_wp2
    exact hK
  case hbody =>
    rintro l j W hj ⟨⟨⟨hA, hS⟩, ho⟩, hb⟩
    have ca := hA.cell
    have cs := hS.cell
    have hjN : j < N := by rw [HL.out]; exact hj
    have hp : scF sd j < N := by rw [HL.out]; exact scF_lt hs hj
    have hcc := ho.cellAt j (by omega)
    have hfz := ho.frozenAt j
    have hst := ho.stored j (.int .i64 (xs.getD (scF sd j) 0))
    rw [scUp_set] at hst
    have hx := H.out.below hb (Nat.le_refl _)
    rcases hx with h0 | ⟨b, off, rfl, hg, hc⟩
    · have e0 := HN.out
      rw [h0] at e0
      have e1 : N = 0 := e0.symm
      omega
    have d1 := hc (scF sd j) (by rw [HN.out]; exact hp)
    have hc' : W.cell? ⟨w.heap.size + 1, j, none⟩ = some (.int .i64 (scUp sd xs j j)) := by rw [hcc]; exact map_at _ hjN
    have HO : Hid _ := hst.1
    have hbs : Hid (Below w.heap.size w (W.setCell ⟨w.heap.size + 1, j, none⟩ (.int .i64 (xs.getD (scF sd j) 0)))) := hb.grown hst.2 hb.size (fun k hk => by cases hk; omega)
    have hA2 : Hid (Boxed (W.setCell ⟨w.heap.size + 1, j, none⟩ (.int .i64 (xs.getD (scF sd j) 0))) w.heap.size 24 (.slice (some ⟨b, off, none⟩) N cap)) := hA.kept hst.2 (fun e => by have e' := Option.some.inj e; omega)
    have hS2 : Hid (Boxed (W.setCell ⟨w.heap.size + 1, j, none⟩ (.int .i64 (xs.getD (scF sd j) 0))) S 24 (.slice (some ⟨w.heap.size + 1, 0, none⟩) N N)) := hS.kept hst.2 (fun e => by have e' := Option.some.inj e; omega)
    clear hcc hc hst ho hA hS
    obtain ⟨x, hx⟩ : ∃ x, xs.getD (scF sd j) 0 = x := ⟨_, rfl⟩
    rw [hx] at d1 HO hbs hA2 hS2
    clear hx
    obtain ⟨p, hpp⟩ : ∃ p, scF sd j = p := ⟨_, rfl⟩
    rw [hpp] at d1 hp ⊢
    have p0 : (0 : Int) ≤ (p : Int) := by omega
    have p1 : (p : Int) < (N : Int) := by omega
    have j0 : (0 : Int) ≤ (j : Int) := by omega
    have j1 : (j : Int) < (N : Int) := by omega
    clear hpp
    have FIN : Hid (KeepsFrom V.heap.size W (W.setCell ⟨w.heap.size + 1, j, none⟩ (.int .i64 x)).drew ∧ ((Boxed (W.setCell ⟨w.heap.size + 1, j, none⟩ (.int .i64 x)).drew w.heap.size 24 (.slice (some ⟨b, off, none⟩) N cap) ∧ Boxed (W.setCell ⟨w.heap.size + 1, j, none⟩ (.int .i64 x)).drew S 24 (.slice (some ⟨w.heap.size + 1, 0, none⟩) N N)) ∧ (W.setCell ⟨w.heap.size + 1, j, none⟩ (.int .i64 x)).drew.ownsRow w.heap.size 3 1 (.slice (some ⟨w.heap.size + 1, 0, none⟩) N N) N ((listF N (scUp sd xs (j + 1))).map (Value.int .i64))) ∧ Below w.heap.size w (W.setCell ⟨w.heap.size + 1, j, none⟩ (.int .i64 x)).drew) :=
      ⟨KeepsFrom.drew ((KeepsOthers.setCell W ⟨w.heap.size + 1, j, none⟩ (.int .i64 x)).from _), ⟨⟨hA2.out, hS2.out⟩, HO.out⟩, hbs.out.drew⟩
    clear HO hbs hA2 hS2
    gi_wp2
    gi_region
    all_goals exact FIN.out
  case hdone =>
    rintro D W hD ⟨⟨⟨hA, hS⟩, ho⟩, hb⟩ hd
    have ca := hA.cell
    have cs := hS.cell
    rw [← HL.out, scUp_full] at ho
    gi_wp2
    refine ⟨by simp, .inl ⟨_, _, rfl, run_takeDeferred hd, ?_⟩⟩
    have hg := grownBy_putObj' W D (.deferred none)
    have ho2 := row_abides w.heap.size (w.heap.size + 1) N N (fun _ : Unit => (listF N (fun i => xs.getD (scF sd i) 0)).map (Value.int .i64)) () W _ (some D) ho hg (fun r e => by cases e; exact ⟨_, hd, rfl⟩)
    refine ⟨.tuple #[.slice (some ⟨w.heap.size + 1, 0, none⟩) N N, .bool true], ?_, ⟨_, rfl, ho2⟩, hb.trans (belowK_b (w := w) (Nat.le_refl _) _ D _ _ (by omega) hd rfl rfl)⟩
    simp [results, Tryz.f57, go_sem]
  case hstop =>
    rintro D j W hD hj h
    exact h.elim
end Go.Proofs.YtlejfkjanllgbaaGreatDoor

namespace Go.Proofs.YtlejfkjanllgbaaGreatDoor
open Go.RowKit
set_option linter.unusedVariables false
attribute [local go_sem] Oper.semAt_some

set_option maxHeartbeats 1600000 in
theorem implUnscanned_yes (sd : Nat) (hs : SideOk sd) (a : Option Addr) (cap : Nat) (xs : List Int) (w : World) (h : Ints w a xs) (hl : xs.length = sd * sd) :
    Calls Tryz.prog 58 #[.int .i64 (sd : Int), .slice a xs.length cap] w fun e w' => (∃ v, e = .returned (.tuple #[v, .bool true]) ∧ w'.ownsRow w.heap.size 3 1 v xs.length ((listF xs.length (fun i => xs.getD (bkF sd i) 0)).map (Value.int .i64))) ∧ Below w.heap.size w w' := by
  have q64 : sd * sd ≤ 64 := by rcases hs with rfl | rfl <;> decide
  have CO := scanOver_any (sd : Int) a xs.length cap
  rw [show ((decide ((sd : Int) = 4) || decide ((sd : Int) = 8)) && decide ((xs.length : Int) = (sd : Int) * (sd : Int))) = true by rw [side_yes hs, Bool.true_and, decide_eq_true_eq, hl]; exact Int.natCast_mul sd sd] at CO
  obtain ⟨N, hN⟩ : ∃ N, xs.length = N := ⟨_, rfl⟩
  rw [hN] at CO hl ⊢
  have HC : Hid (∀ w', Calls Tryz.prog 84 #[.int .i64 (sd : Int), .slice a N cap] w' (fun e w'' => e = .returned (.tuple #[.int .i64 (sd : Int), .bool true]) ∧ w'' = w')) := fun w' => CO w' (by unfold maxLen; omega)
  have HN : Hid (xs.length = N) := hN
  have HL : Hid (N = sd * sd) := hl
  have H : Hid (Ints w a xs) := h
  have n64 : (N : Int) ≤ 64 := by omega
  clear CO hN h hl q64
  refine (callsIn_wide (n := 3)).1 ?_
  refine callsIn_of_wp_marks Tryz.func58 rfl trivial ?_ rfl
  simp only [Tryz.ntmps58, List.size_toArray, List.length_cons, List.length_nil, Nat.reduceAdd, Nat.reduceSub, Array.replicate_succ, Array.replicate_zero, List.push_toArray, List.append_toArray, List.nil_append, List.cons_append]
  have bL := Boxed.new w 24 (.slice a N cap)
  have cL := bL.cell
  have hb0 : Below w.heap.size w (w.alloc (.cells #[.slice a N cap] 24)) := (Below.refl _ w).alloc (Nat.le_refl _) _
  gi_wp2_with (first
    | (refine ⟨trivial, ?_⟩; gi_at_call 84; refine (callsIn_wide.2 (HC.out _)).mono ?_; rintro e w' ⟨rfl, hw⟩; subst w')
    | (gi_at_make; refine makeFullIn _ (by rfl) _ _ (by rfl) w.heap.size N (by rfl) (by rfl) (by omega) (by simp) ?_; intro w2 hown0 hgrow0; have hb2 := hb0.grown hgrow0 (by simp) (fun j hj => by cases hj); have bL2 := bL.kept hgrow0 (by simp)))
  rw [bkUp_made sd xs] at hown0
  have hown1 := hown0
  rw [World.size_alloc] at hown1
  generalize hV : w2.alloc (.cells #[.slice (some ⟨w.heap.size + 1, 0, none⟩) N N] 24) = V
  have bS : Boxed V w2.heap.size 24 (.slice (some ⟨w.heap.size + 1, 0, none⟩) N N) := by rw [← hV]; exact Boxed.new w2 _ _
  have bA : Boxed V w.heap.size 24 (.slice a N cap) := by rw [← hV]; exact bL2.alloc _
  have hb3 : Below w.heap.size w V := by rw [← hV]; exact hb2.alloc hb2.size _
  have ho3 : V.ownsRow w.heap.size 3 1 (.slice (some ⟨w.heap.size + 1, 0, none⟩) N N) N ((listF N (bkUp sd xs 0)).map (Value.int .i64)) := by rw [← hV]; exact hown1.alloc _
  have hsz : V.heap.size = w2.heap.size + 1 := by rw [← hV]; simp
  have hs2 : w.heap.size + 1 < w2.heap.size := by have := (hown1.lt _ rfl).2; omega
  clear hV hown0 hown1 hgrow0 hb2 bL2 bL cL hb0
  generalize w2.heap.size = S at *
  apply scanLoop sd hs rfl rfl
    (fun j W => ((Boxed W w.heap.size 24 (.slice a N cap) ∧ Boxed W S 24 (.slice (some ⟨w.heap.size + 1, 0, none⟩) N N)) ∧ W.ownsRow w.heap.size 3 1 (.slice (some ⟨w.heap.size + 1, 0, none⟩) N N) N ((listF N (bkUp sd xs j)).map (Value.int .i64))) ∧ Below w.heap.size w W)
    (fun _ _ => False)
    (OwnFrom.and (Own.from (fun s A B row h hg hr => ⟨⟨boxed_own _ 24 (fun _ : Unit => .slice a N cap) () A B row h.1.1 hg hr, boxed_own _ 24 (fun _ : Unit => .slice (some ⟨w.heap.size + 1, 0, none⟩) N N) () A B row h.1.2 hg hr⟩, row_abides _ _ _ _ (fun j => (listF N (bkUp sd xs j)).map (Value.int .i64)) s A B row h.2 hg hr⟩) _) (ownFrom_below (Nat.le_refl _) (by omega)))
    (fun _ _ _ _ h _ _ => h)
    ⟨⟨⟨bA, bS⟩, ho3⟩, hb3⟩
  case hassign =>
    intro l j W K hK
    gi_wp2
    exact hK
  case hbody =>
    rintro l j W hj ⟨⟨⟨hA, hS⟩, ho⟩, hb⟩
    have ca := hA.cell
    have cs := hS.cell
    have hjN : j < N := by rw [HL.out]; exact hj
    have hp : scF sd j < N := by rw [HL.out]; exact scF_lt hs hj
    have hcc := ho.cellAt (scF sd j) (by omega)
    have hfz := ho.frozenAt (scF sd j)
    have hst := ho.stored (scF sd j) (.int .i64 (xs.getD j 0))
    rw [bkUp_set hs xs N j hj] at hst
    have hx := H.out.below hb (Nat.le_refl _)
    rcases hx with h0 | ⟨b, off, rfl, hg, hc⟩
    · have e0 := HN.out
      rw [h0] at e0
      have e1 : N = 0 := e0.symm
      omega
    have d1 := hc j (by rw [HN.out]; exact hjN)
    have hc' : W.cell? ⟨w.heap.size + 1, scF sd j, none⟩ = some (.int .i64 (bkUp sd xs j (scF sd j))) := by rw [hcc]; exact map_at _ hp
    have HO : Hid _ := hst.1
    have hbs : Hid (Below w.heap.size w (W.setCell ⟨w.heap.size + 1, scF sd j, none⟩ (.int .i64 (xs.getD j 0)))) := hb.grown hst.2 hb.size (fun k hk => by cases hk; omega)
    have hA2 : Hid (Boxed (W.setCell ⟨w.heap.size + 1, scF sd j, none⟩ (.int .i64 (xs.getD j 0))) w.heap.size 24 (.slice (some ⟨b, off, none⟩) N cap)) := hA.kept hst.2 (fun e => by have e' := Option.some.inj e; omega)
    have hS2 : Hid (Boxed (W.setCell ⟨w.heap.size + 1, scF sd j, none⟩ (.int .i64 (xs.getD j 0))) S 24 (.slice (some ⟨w.heap.size + 1, 0, none⟩) N N)) := hS.kept hst.2 (fun e => by have e' := Option.some.inj e; omega)
    clear hcc hc hst ho hA hS
    obtain ⟨x, hx⟩ : ∃ x, xs.getD j 0 = x := ⟨_, rfl⟩
    rw [hx] at d1 HO hbs hA2 hS2
    clear hx
    obtain ⟨p, hpp⟩ : ∃ p, scF sd j = p := ⟨_, rfl⟩
    obtain ⟨y, hy⟩ : ∃ y, bkUp sd xs j (scF sd j) = y := ⟨_, rfl⟩
    rw [hy] at hc'
    rw [hpp] at hfz hc' HO hbs hA2 hS2 hp ⊢
    have p0 : (0 : Int) ≤ (p : Int) := by omega
    have p1 : (p : Int) < (N : Int) := by omega
    have j0 : (0 : Int) ≤ (j : Int) := by omega
    have j1 : (j : Int) < (N : Int) := by omega
    clear hpp hy
    have FIN : Hid (KeepsFrom V.heap.size W (W.setCell ⟨w.heap.size + 1, p, none⟩ (.int .i64 x)).drew ∧ ((Boxed (W.setCell ⟨w.heap.size + 1, p, none⟩ (.int .i64 x)).drew w.heap.size 24 (.slice (some ⟨b, off, none⟩) N cap) ∧ Boxed (W.setCell ⟨w.heap.size + 1, p, none⟩ (.int .i64 x)).drew S 24 (.slice (some ⟨w.heap.size + 1, 0, none⟩) N N)) ∧ (W.setCell ⟨w.heap.size + 1, p, none⟩ (.int .i64 x)).drew.ownsRow w.heap.size 3 1 (.slice (some ⟨w.heap.size + 1, 0, none⟩) N N) N ((listF N (bkUp sd xs (j + 1))).map (Value.int .i64))) ∧ Below w.heap.size w (W.setCell ⟨w.heap.size + 1, p, none⟩ (.int .i64 x)).drew) :=
      ⟨KeepsFrom.drew ((KeepsOthers.setCell W ⟨w.heap.size + 1, p, none⟩ (.int .i64 x)).from _), ⟨⟨hA2.out, hS2.out⟩, HO.out⟩, hbs.out.drew⟩
    clear HO hbs hA2 hS2
    gi_wp2
    gi_region
    all_goals exact FIN.out
  case hdone =>
    rintro D W hD ⟨⟨⟨hA, hS⟩, ho⟩, hb⟩ hd
    have ca := hA.cell
    have cs := hS.cell
    rw [HL.out, bkUp_full hs, ← HL.out] at ho
    gi_wp2
    refine ⟨by simp, .inl ⟨_, _, rfl, run_takeDeferred hd, ?_⟩⟩
    have hg := grownBy_putObj' W D (.deferred none)
    have ho2 := row_abides w.heap.size (w.heap.size + 1) N N (fun _ : Unit => (listF N (fun i => xs.getD (bkF sd i) 0)).map (Value.int .i64)) () W _ (some D) ho hg (fun r e => by cases e; exact ⟨_, hd, rfl⟩)
    refine ⟨.tuple #[.slice (some ⟨w.heap.size + 1, 0, none⟩) N N, .bool true], ?_, ⟨_, rfl, ho2⟩, hb.trans (belowK_b (w := w) (Nat.le_refl _) _ D _ _ (by omega) hd rfl rfl)⟩
    simp [results, Tryz.f58, go_sem]
  case hstop =>
    rintro D j W hD hj h
    exact h.elim
end Go.Proofs.YtlejfkjanllgbaaGreatDoor

namespace Go.Proofs.YtlejfkjanllgbaaGreatDoor
open Go.RowKit
set_option linter.unusedVariables false

theorem implScanned (s : Int) (a : Option Addr) (cap : Nat) (xs : List Int) (w : World) (h : Ints w a xs) (hl : xs.length ≤ maxLen) :
    Calls Tryz.prog 57 #[.int .i64 s, .slice a xs.length cap] w fun e w' => (∃ v, e = .returned (.tuple #[v, .bool (scOk s xs)]) ∧ w'.ownsRow w.heap.size 3 1 v (scanL s xs).length ((scanL s xs).map (Value.int .i64))) ∧ Below w.heap.size w w' := by
  cases hb : scOk s xs with
  | true =>
    obtain ⟨h1, h2, h3⟩ := scOk_of hb
    have := implScanned_yes s.toNat h1 a cap xs w h h3
    rw [← h2] at this
    unfold scanL
    rw [if_pos hb, listF_length]
    exact this
  | false =>
    have CO := scanOver_any s a xs.length cap
    rw [show ((decide (s = 4) || decide (s = 8)) && decide ((xs.length : Int) = s * s)) = false from hb] at CO
    have HC : Hid (∀ w', Calls Tryz.prog 84 #[.int .i64 s, .slice a xs.length cap] w' (fun e w'' => e = .returned (.tuple #[.int .i64 s, .bool false]) ∧ w'' = w')) := fun w' => CO w' hl
    have HL : Hid (scanL s xs = []) := by unfold scanL; exact if_neg (by rw [hb]; decide)
    have cL := (Boxed.new w 24 (.slice a xs.length cap)).cell
    have h0 : Below w.heap.size w (w.alloc (.cells #[.slice a xs.length cap] 24)) := (Below.refl _ w).alloc (Nat.le_refl _) _
    have HB : Hid (Below w.heap.size w ((w.alloc (.cells #[.slice a xs.length cap] 24)).alloc (.cells #[] 3))) := h0.alloc h0.size _
    have HO' : Hid (((w.alloc (.cells #[.slice a xs.length cap] 24)).alloc (.cells #[] 3)).ownsRow w.heap.size 3 1 (.slice (some ⟨w.heap.size + 1, 0, none⟩) 0 0) 0 (([] : List Int).map (Value.int .i64))) := by
      have HO := own_none (w.alloc (.cells #[.slice a xs.length cap] 24)) (B := w.heap.size) (by simp)
      rw [World.size_alloc] at HO
      exact HO
    clear CO hb h hl h0
    go_enter Tryz.func57, Tryz.ntmps57
    go_wp2_with (go_at_call 84; refine (HC.out _).mono ?_; rintro e w' ⟨rfl, hw⟩; subst w')
    go_ret2
    rw [HL.out]
    exact ⟨⟨_, rfl, HO'.out⟩, HB.out⟩
theorem implUnscanned (s : Int) (a : Option Addr) (cap : Nat) (xs : List Int) (w : World) (h : Ints w a xs) (hl : xs.length ≤ maxLen) :
    Calls Tryz.prog 58 #[.int .i64 s, .slice a xs.length cap] w fun e w' => (∃ v, e = .returned (.tuple #[v, .bool (scOk s xs)]) ∧ w'.ownsRow w.heap.size 3 1 v (backL s xs).length ((backL s xs).map (Value.int .i64))) ∧ Below w.heap.size w w' := by
  cases hb : scOk s xs with
  | true =>
    obtain ⟨h1, h2, h3⟩ := scOk_of hb
    have := implUnscanned_yes s.toNat h1 a cap xs w h h3
    rw [← h2] at this
    unfold backL
    rw [if_pos hb, listF_length]
    exact this
  | false =>
    have CO := scanOver_any s a xs.length cap
    rw [show ((decide (s = 4) || decide (s = 8)) && decide ((xs.length : Int) = s * s)) = false from hb] at CO
    have HC : Hid (∀ w', Calls Tryz.prog 84 #[.int .i64 s, .slice a xs.length cap] w' (fun e w'' => e = .returned (.tuple #[.int .i64 s, .bool false]) ∧ w'' = w')) := fun w' => CO w' hl
    have HL : Hid (backL s xs = []) := by unfold backL; exact if_neg (by rw [hb]; decide)
    have cL := (Boxed.new w 24 (.slice a xs.length cap)).cell
    have h0 : Below w.heap.size w (w.alloc (.cells #[.slice a xs.length cap] 24)) := (Below.refl _ w).alloc (Nat.le_refl _) _
    have HB : Hid (Below w.heap.size w ((w.alloc (.cells #[.slice a xs.length cap] 24)).alloc (.cells #[] 3))) := h0.alloc h0.size _
    have HO' : Hid (((w.alloc (.cells #[.slice a xs.length cap] 24)).alloc (.cells #[] 3)).ownsRow w.heap.size 3 1 (.slice (some ⟨w.heap.size + 1, 0, none⟩) 0 0) 0 (([] : List Int).map (Value.int .i64))) := by
      have HO := own_none (w.alloc (.cells #[.slice a xs.length cap] 24)) (B := w.heap.size) (by simp)
      rw [World.size_alloc] at HO
      exact HO
    clear CO hb h hl h0
    go_enter Tryz.func58, Tryz.ntmps58
    go_wp2_with (go_at_call 84; refine (HC.out _).mono ?_; rintro e w' ⟨rfl, hw⟩; subst w')
    go_ret2
    rw [HL.out]
    exact ⟨⟨_, rfl, HO'.out⟩, HB.out⟩
end Go.Proofs.YtlejfkjanllgbaaGreatDoor

namespace Go.Proofs.YtlejfkjanllgbaaGreatDoor
open Go.RowKit
set_option linter.unusedVariables false

end Go.Proofs.YtlejfkjanllgbaaGreatDoor

namespace Go.Proofs.YtlejfkjanllgbaaGreatDoor
open Go.RowKit
set_option linter.unusedVariables false

theorem ints_some {w : World} {a : Option Addr} {xs : List Int} (h : Ints w a xs) (hn : 0 < xs.length) :
    ∃ b off, a = some ⟨b, off, none⟩ ∧ b < w.heap.size ∧ Hid (∀ w', Below w.heap.size w w' → ∀ j, j < xs.length → w'.cell? ⟨b, off + j, none⟩ = some (.int .i64 (xs.getD j 0))) := by
  rcases h with h0 | ⟨b, off, ha, hg, hc⟩
  · rw [h0] at hn
    cases hn
  · exact ⟨b, off, ha, hg, fun w' hb j hj => (hb.cell (p := ⟨b, off + j, none⟩) hg).trans (hc j hj)⟩
theorem atF_of {sd k : Nat} (hs : SideOk sd) (hk : k < sd * sd) : atF (sd : Int) (k : Int) = (scF sd k : Int) := by
  unfold atF
  rw [if_pos ⟨by rcases hs with rfl | rfl <;> simp, by omega, by have := Int.natCast_mul sd sd; omega⟩]
  simp
theorem listF_more (n : Nat) (f : Nat → Int) : (listF n f).map (Value.int .i64) ++ [.int .i64 (f n)] = (listF (n + 1) f).map (Value.int .i64) := by
  unfold listF
  rw [List.range_succ, List.map_append, List.map_append]
  rfl
theorem base_own {w : World} {B n s : Nat} {e : TypeId} {v : Value} {xs : List Value} (h : w.ownsRow B e s v n xs) : ∀ k, v.ownBlock = some k → B ≤ k := fun k hk => (h.lt k hk).1

end Go.Proofs.YtlejfkjanllgbaaGreatDoor

namespace Go.Proofs.YtlejfkjanllgbaaGreatDoor
open Go.RowKit
set_option linter.unusedVariables false

end Go.Proofs.YtlejfkjanllgbaaGreatDoor
