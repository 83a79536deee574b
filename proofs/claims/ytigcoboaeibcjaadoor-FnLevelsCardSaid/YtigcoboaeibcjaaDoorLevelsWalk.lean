/-
  The walk of laws.FnLevels: a drawn right set keeps the limit of its level, is right at the LevelFor it, and not below.
-/
import Derived.Test.YtigcoboaeibcjaaDoorHeadDraw
import Derived.Test.YtigcoboaeibcjaaDoorCodeVal
import Derived.Test.YtigcoboaeibcjaaDoorGridLvl
namespace Go.Proofs.YtigcoboaeibcjaaDoor
open Go.RowKit
set_option linter.unusedVariables false
set_option maxRecDepth 20000

theorem seqB_bits {l b c : Int} {xs ys : List Int} (hb : 3 ≤ b ∧ b ≤ 8) (hc : 3 ≤ c ∧ c ≤ 8) : seqB l b xs ys = seqB l c xs ys := by
  unfold seqB
  rw [show decide (3 ≤ b) = true by simpa using hb.1, show decide (b ≤ 8) = true by simpa using hb.2, show decide (3 ≤ c) = true by simpa using hc.1, show decide (c ≤ 8) = true by simpa using hc.2]
theorem seqB_zero (b : Int) (xs ys : List Int) : seqB 0 b xs ys = false := by
  rw [Bool.eq_false_iff]
  intro h
  obtain ⟨h1, h2, _⟩ := seqB_true h
  have : lvlI 0 = 0 := rfl
  omega
/-- The least level of a right set. -/
theorem lvlF_right {l b : Int} {xs ys : List Int} (h : seqB l b xs ys = true) : (1 ≤ lvlF xs ys ∧ lvlF xs ys ≤ l) ∧ seqB (lvlF xs ys) b xs ys = true ∧ seqB (lvlF xs ys - 1) b xs ys = false := by
  obtain ⟨_, _, b0, b1⟩ := seqB_true h
  obtain ⟨l0, l1⟩ := seqB_lvl h
  have hx : ∀ k, seqB k b xs ys = seqB k 3 xs ys := fun k => seqB_bits ⟨b0, b1⟩ ⟨by omega, by omega⟩
  rw [hx] at h
  rw [hx, hx]
  cases e1 : seqB 1 3 xs ys with
  | true =>
    have hv : lvlF xs ys = 1 := by unfold lvlF; rw [if_pos e1]
    rw [hv]
    exact ⟨⟨by omega, l0⟩, e1, seqB_zero 3 xs ys⟩
  | false =>
    have n1 : l ≠ 1 := by intro hh; rw [hh, e1] at h; cases h
    cases e2 : seqB 2 3 xs ys with
    | true =>
      have hv : lvlF xs ys = 2 := by unfold lvlF; rw [if_neg (by rw [e1]; decide), if_pos e2]
      rw [hv]
      exact ⟨⟨by omega, by omega⟩, e2, e1⟩
    | false =>
      have n2 : l ≠ 2 := by intro hh; rw [hh, e2] at h; cases h
      have hl : l = 3 := by omega
      rw [hl] at h
      have hv : lvlF xs ys = 3 := by unfold lvlF; rw [if_neg (by rw [e1]; decide), if_neg (by rw [e2]; decide), if_pos h]
      rw [hv]
      exact ⟨⟨by omega, by omega⟩, h, e2⟩

set_option maxHeartbeats 3200000 in
theorem fnLevels_walk (a : Option Addr) (len cap : Nat) (w : World) (hE : ErrT w) (hc : 1048576 < (len : Int) ∨ CodeIn w a len cap) :
    Calls Tryd.prog 3 #[.slice a len cap] w fun e w' => e = .returned (.bool true) ∧ Below w.heap.size w w' := by
  rcases hc with hbig | ⟨hlen, hnil, hrow⟩
  · go_enter Tryd.func3, Tryd.ntmps3
    go_wp2_with (go_at_call 11; refine (big_yes a len cap _ hbig).mono ?_; rintro e w1 ⟨rfl, hw⟩; subst w1)
    go_ret
    exact ⟨rfl, Below.refl _ _⟩
  obtain ⟨zs, hzl, hcv⟩ := codeV_of hrow
  have HCV : Hid (CodeV w w.heap.size a zs) := hcv
  have E : Hid (∀ w', Below w.heap.size w w' → ErrT w') := fun w' hb => hE.below hb (Nat.le_refl _)
  have okS := (ri_ok zs (newF zs)).1
  have n1 := (ri_ok zs (newF zs)).2.1
  have n2 := (ri_ok zs (newF zs)).2.2.1
  have CD : Hid (∀ w', Below w.heap.size w w' → Calls Tryd.prog 12 #[.slice a len cap] w' _) := fun w' hb => by
    rw [← hzl]; exact drawSets_val a cap w.heap.size zs w' (HCV.out.below hb) hb.size
  clear hrow hcv hE hzl HCV
  generalize riL zs (newF zs) = l at *
  generalize riB zs (newF zs) = b at *
  generalize riX zs (newF zs) = xs at *
  generalize riY zs (newF zs) = ys at *
  generalize piQ zs (riE zs (newF zs)) = q at *
  generalize (piT zs (riE zs (newF zs)) == 0) = g at *
  generalize (piT zs (riE zs (newF zs)) == 1) = x at *
  generalize piC zs (riE zs (newF zs)) = c at *
  have m1 : xs.length ≤ maxLen := by unfold maxLen; omega
  have m2 : ys.length ≤ maxLen := by unfold maxLen; omega
  obtain ⟨⟨v1, v2⟩, v3, v4⟩ := lvlF_right okS
  obtain ⟨q1, q2, _, _⟩ := seqB_true okS
  obtain ⟨_, q3⟩ := sqI_bd xs ys
  go_enter Tryd.func3, Tryd.ntmps3
  go_wp2_with (go_at_call 11; refine (big_any a len cap _ hlen).mono ?_; rintro e w1 ⟨rfl, hw⟩; subst w1)
  refine (CD.out w (Below.refl _ _)).mono ?_
  rintro e w1 ⟨a1, a2, c1, c2, t, f, qq, rfl, i1, i2, hb1⟩
  go_wp2_with fail
  generalize hW : World.alloc (World.alloc (World.alloc w1 _) _) _ = W
  have B0 : Blk W w1.heap.size #[.int .i64 l, .int .i64 b, .slice a1 xs.length c1, .slice a2 ys.length c2] 26 := by rw [← hW]; exact ((Blk.new w1 _ _).alloc _).alloc _
  have hbW : Below w1.heap.size w1 W := by rw [← hW]; exact (((Below.refl _ _).alloc (Nat.le_refl _) _).alloc (by simp) _).alloc (by simp; omega) _
  clear hW
  have hb2 := hb1.trans (hbW.mono hb1.size)
  have J : Hid (∀ w', Below W.heap.size W w' → SetIn w' a1 a2 xs ys) := fun w' hb => ⟨⟨i1.below (hbW.trans (hb.mono hbW.size)) (Nat.le_refl _), i2.below (hbW.trans (hb.mono hbW.size)) (Nat.le_refl _), E.out w' (hb2.trans (hb.mono hb2.size))⟩, m1, m2⟩
  have BK : Hid (∀ w', Below W.heap.size W w' → w'.cell? ⟨w1.heap.size, 0, none⟩ = some (.int .i64 l) ∧ w'.cell? ⟨w1.heap.size, 1, none⟩ = some (.int .i64 b) ∧ w'.cell? ⟨w1.heap.size, 2, none⟩ = some (.slice a1 xs.length c1) ∧ w'.cell? ⟨w1.heap.size, 3, none⟩ = some (.slice a2 ys.length c2)) := fun w' hb => (B0.below hb B0.lt).four.1
  obtain ⟨x0, x1, x2, x3⟩ := BK.out W (Below.refl _ _)
  have CS : Hid (∀ w', Below W.heap.size W w' → Calls Tryd.prog 13 #[.agg #[.int .i64 l, .int .i64 b, .slice a1 xs.length c1, .slice a2 ys.length c2]] w' (fun e w'' => e = .returned (.bool true) ∧ Below w'.heap.size w' w'')) := fun w' hb => by
    have hj := J.out w' hb
    have := implSeqOk l b a1 a2 c1 c2 xs ys w' hj.1.2.2 hj.1.1 hj.1.2.1 m1 m2
    rwa [okS] at this
  have CQ : Hid (∀ w', Below W.heap.size W w' → Calls Tryd.prog 14 #[.agg #[.int .i64 l, .int .i64 b, .slice a1 xs.length c1, .slice a2 ys.length c2]] w' (fun e w'' => e = .returned (.int .i64 (sqI xs ys)) ∧ Below w'.heap.size w' w'')) := fun w' hb => by
    have hj := J.out w' hb
    exact implSquares l b a1 a2 c1 c2 xs ys w' hj.1.1 hj.1.2.1 m1 m2
  have CL := implLevel l
  have CF : Hid (∀ w', Below W.heap.size W w' → Calls Tryd.prog 16 #[.slice a1 xs.length c1, .slice a2 ys.length c2] w' (fun e w'' => e = .returned (.int .i64 (lvlF xs ys)) ∧ Below w'.heap.size w' w'')) := fun w' hb => implLevelFor a1 a2 c1 c2 xs ys w' (J.out w' hb)
  have OK : Hid (seqB (lvlF xs ys) b xs ys = true ∧ seqB (lvlF xs ys - 1) b xs ys = false) := ⟨v3, v4⟩
  have ls := seqB_lvl okS
  clear i1 i2 hb1 hbW B0 v3 v4 okS
  generalize sqI xs ys = sq at *
  generalize lvlI l = L at *
  generalize lvlF xs ys = n at *
  generalize w1.heap.size = k1 at *
  have z1 : decide (sq < 1) = false := by simp; omega
  have z2 : decide (L < sq) = false := by simp; omega
  go_region_held3 (fun w' => w'.cell? ⟨k1, 0, none⟩ = some (.int .i64 l) ∧ w'.cell? ⟨k1, 1, none⟩ = some (.int .i64 b) ∧ w'.cell? ⟨k1, 2, none⟩ = some (.slice a1 xs.length c1) ∧ w'.cell? ⟨k1, 3, none⟩ = some (.slice a2 ys.length c2))
    (first | go_keep | exact BK.out _ hcC | exact BK.out _ hcB | exact BK.out _ hcA)
    (first
      | (go_at_call 13; refine (CS.out _ (by go_grown)).mono ?_; rintro e wA ⟨rfl, hrA⟩; have hcA : Below W.heap.size W wA := (show Below W.heap.size W _ by go_grown).trans (hrA.mono (by simp)); clear hrA)
      | (go_at_call 14; have hx := hcB; refine (CQ.out _ hx).mono ?_; rintro e wC ⟨rfl, hrC⟩; have hcC : Below W.heap.size W wC := hcB.trans (hrC.mono hcB.size); clear hrC)
      | (go_at_call 14; refine (CQ.out _ hcA).mono ?_; rintro e wB ⟨rfl, hrB⟩; have hcB : Below W.heap.size W wB := hcA.trans (hrB.mono hcA.size); clear hrB)
      | (go_at_call 15; refine (CL _).mono ?_; rintro e wD ⟨rfl, hw⟩; subst wD))
  obtain ⟨y0, y1, y2, y3⟩ := BK.out wC hcC
  clear hcA hcB x0 x1 x2 x3 z1 z2 CS CQ CL
  go_wp2_with fail
  refine (CF.out wC hcC).mono ?_
  rintro e wD ⟨rfl, hrD⟩
  have hcD := hcC.trans (hrD.mono hcC.size)
  have hbD := hb2.trans (hcD.mono hb2.size)
  clear hrD hcC y0 y1 y2 y3 CF J
  go_wp2_with fail
  refine (CD.out wD hbD).mono ?_
  rintro e w3 ⟨a3, a4, c3, c4, t', f', qq', rfl, i3, i4, hb3⟩
  go_wp2_with fail
  generalize hW : World.alloc (World.alloc (World.alloc w3 _) _) _ = U
  have T0 : Blk U w3.heap.size #[.int .i64 n, .int .i64 b, .slice a3 xs.length c3, .slice a4 ys.length c4] 26 := by rw [← hW]; exact ((Blk.new w3 _ _).alloc _).alloc _
  have hbU : Below w3.heap.size w3 U := by rw [← hW]; exact (((Below.refl _ _).alloc (Nat.le_refl _) _).alloc (by simp) _).alloc (by simp; omega) _
  clear hW
  have hDU := hb3.trans (hbU.mono hb3.size)
  have hcU := hcD.trans (hDU.mono hcD.size)
  have hb4 := hbD.trans (hDU.mono hbD.size)
  have J3 : Hid (∀ w', Below U.heap.size U w' → SetIn w' a3 a4 xs ys) := fun w' hb => ⟨⟨i3.below (hbU.trans (hb.mono hbU.size)) (Nat.le_refl _), i4.below (hbU.trans (hb.mono hbU.size)) (Nat.le_refl _), E.out w' (hb4.trans (hb.mono hb4.size))⟩, m1, m2⟩
  clear i3 i4 hb3 hbU hDU hcD hbD
  generalize w3.heap.size = k3 at *
  refine (CD.out U hb4).mono ?_
  rintro e w4 ⟨a5, a6, c5, c6, t'', f'', qq'', rfl, i5, i6, hb5⟩
  have U0 : Blk (((w4.alloc (.cells #[.int .i64 (n - 1), .int .i64 b, .slice a5 xs.length c5, .slice a6 ys.length c6] 26)).alloc (.cells #[.int .i64 q, .bool g, .bool x, .bool c] 28)).alloc (.cells #[.int .i64 t'', .int .i64 f'', .int .i64 qq''] 30)) w4.heap.size #[.int .i64 (n - 1), .int .i64 b, .slice a5 xs.length c5, .slice a6 ys.length c6] 26 := ((Blk.new w4 _ _).alloc _).alloc _
  have hbV : Below w4.heap.size w4 (((w4.alloc (.cells #[.int .i64 (n - 1), .int .i64 b, .slice a5 xs.length c5, .slice a6 ys.length c6] 26)).alloc (.cells #[.int .i64 q, .bool g, .bool x, .bool c] 28)).alloc (.cells #[.int .i64 t'', .int .i64 f'', .int .i64 qq''] 30)) := (((Below.refl _ _).alloc (Nat.le_refl _) _).alloc (by simp) _).alloc (by simp; omega) _
  have hUV := hb5.trans (hbV.mono hb5.size)
  have hcV := hcU.trans (hUV.mono hcU.size)
  have hb6 := hb4.trans (hUV.mono hb4.size)
  have T1 := T0.below hUV T0.lt
  have CT : Hid (∀ w', Below (((w4.alloc (.cells #[.int .i64 (n - 1), .int .i64 b, .slice a5 xs.length c5, .slice a6 ys.length c6] 26)).alloc (.cells #[.int .i64 q, .bool g, .bool x, .bool c] 28)).alloc (.cells #[.int .i64 t'', .int .i64 f'', .int .i64 qq''] 30)).heap.size (((w4.alloc (.cells #[.int .i64 (n - 1), .int .i64 b, .slice a5 xs.length c5, .slice a6 ys.length c6] 26)).alloc (.cells #[.int .i64 q, .bool g, .bool x, .bool c] 28)).alloc (.cells #[.int .i64 t'', .int .i64 f'', .int .i64 qq''] 30)) w' → Calls Tryd.prog 13 #[.agg #[.int .i64 n, .int .i64 b, .slice a3 xs.length c3, .slice a4 ys.length c4]] w' (fun e w'' => e = .returned (.bool true) ∧ Below w'.heap.size w' w'')) := fun w' hb => by
    have hj := J3.out w' (hUV.trans (hb.mono hUV.size))
    have := implSeqOk n b a3 a4 c3 c4 xs ys w' hj.1.2.2 hj.1.1 hj.1.2.1 m1 m2
    rwa [OK.out.1] at this
  have CU : Hid (∀ w', Below (((w4.alloc (.cells #[.int .i64 (n - 1), .int .i64 b, .slice a5 xs.length c5, .slice a6 ys.length c6] 26)).alloc (.cells #[.int .i64 q, .bool g, .bool x, .bool c] 28)).alloc (.cells #[.int .i64 t'', .int .i64 f'', .int .i64 qq''] 30)).heap.size (((w4.alloc (.cells #[.int .i64 (n - 1), .int .i64 b, .slice a5 xs.length c5, .slice a6 ys.length c6] 26)).alloc (.cells #[.int .i64 q, .bool g, .bool x, .bool c] 28)).alloc (.cells #[.int .i64 t'', .int .i64 f'', .int .i64 qq''] 30)) w' → Calls Tryd.prog 13 #[.agg #[.int .i64 (n - 1), .int .i64 b, .slice a5 xs.length c5, .slice a6 ys.length c6]] w' (fun e w'' => e = .returned (.bool false) ∧ Below w'.heap.size w' w'')) := fun w' hb => by
    have := implSeqOk (n - 1) b a5 a6 c5 c6 xs ys w' (E.out w' (hb6.trans (hb.mono hb6.size))) (i5.below (hbV.trans (hb.mono hbV.size)) (Nat.le_refl _)) (i6.below (hbV.trans (hb.mono hbV.size)) (Nat.le_refl _)) m1 m2
    rwa [OK.out.2] at this
  have BV : Hid (∀ w', Below (((w4.alloc (.cells #[.int .i64 (n - 1), .int .i64 b, .slice a5 xs.length c5, .slice a6 ys.length c6] 26)).alloc (.cells #[.int .i64 q, .bool g, .bool x, .bool c] 28)).alloc (.cells #[.int .i64 t'', .int .i64 f'', .int .i64 qq''] 30)).heap.size (((w4.alloc (.cells #[.int .i64 (n - 1), .int .i64 b, .slice a5 xs.length c5, .slice a6 ys.length c6] 26)).alloc (.cells #[.int .i64 q, .bool g, .bool x, .bool c] 28)).alloc (.cells #[.int .i64 t'', .int .i64 f'', .int .i64 qq''] 30)) w' → w'.cell? ⟨k1, 0, none⟩ = some (.int .i64 l) ∧ (w'.cell? ⟨k3, 0, none⟩ = some (.int .i64 n) ∧ w'.cell? ⟨k3, 1, none⟩ = some (.int .i64 b) ∧ w'.cell? ⟨k3, 2, none⟩ = some (.slice a3 xs.length c3) ∧ w'.cell? ⟨k3, 3, none⟩ = some (.slice a4 ys.length c4)) ∧ (w'.cell? ⟨w4.heap.size, 0, none⟩ = some (.int .i64 (n - 1)) ∧ w'.cell? ⟨w4.heap.size, 1, none⟩ = some (.int .i64 b) ∧ w'.cell? ⟨w4.heap.size, 2, none⟩ = some (.slice a5 xs.length c5) ∧ w'.cell? ⟨w4.heap.size, 3, none⟩ = some (.slice a6 ys.length c6))) :=
    fun w' hb => ⟨(BK.out w' (hcV.trans (hb.mono hcV.size))).1, (T1.below hb T1.lt).four.1, (U0.below hb U0.lt).four.1⟩
  obtain ⟨y0, ⟨y1, y2, y3, y4⟩, y5, y6, y7, y8⟩ := BV.out (((w4.alloc (.cells #[.int .i64 (n - 1), .int .i64 b, .slice a5 xs.length c5, .slice a6 ys.length c6] 26)).alloc (.cells #[.int .i64 q, .bool g, .bool x, .bool c] 28)).alloc (.cells #[.int .i64 t'', .int .i64 f'', .int .i64 qq''] 30)) (Below.refl _ _)
  clear i5 i6 hb5 hbV hUV hcU hcV T0 T1 U0 J3 BK CD hb4 hb2
  have l3 := ls.2
  go_wp2_with (first
    | (go_at_call_of 13 (Value.slice a3 xs.length c3); refine (CT.out _ (Below.refl _ _)).mono ?_; rintro e w5 ⟨rfl, hc5⟩; obtain ⟨_, _, u5, u6, u7, u8⟩ := BV.out w5 hc5)
    | (go_at_call_of 13 (Value.slice a5 xs.length c5); refine (CU.out _ hc5).mono ?_; rintro e w6 ⟨rfl, hc6⟩))
  go_ret
  exact ⟨rfl, (hb6.trans (hc5.mono hb6.size)).trans (hc6.mono (Nat.le_trans hb6.size hc5.size))⟩
end Go.Proofs.YtigcoboaeibcjaaDoor
