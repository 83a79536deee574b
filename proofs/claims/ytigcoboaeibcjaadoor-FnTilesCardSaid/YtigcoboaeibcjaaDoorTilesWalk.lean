/-
  The walk of laws.FnTiles: each dot of a drawn right set is in the one tile that is told for it; the tiles have all squares together.
-/
import Derived.Test.YtigcoboaeibcjaaDoorHeadDraw
import Derived.Test.YtigcoboaeibcjaaDoorCodeVal
import Derived.Test.YtigcoboaeibcjaaDoorDrawPlaces
import Derived.Test.YtigcoboaeibcjaaDoorGridSqI
import Derived.Test.YtigcoboaeibcjaaDoorGridAt
namespace Go.Proofs.YtigcoboaeibcjaaDoor
open Go.RowKit
set_option linter.unusedVariables false
set_option maxRecDepth 20000

/-- How many of the first k tiles are the tile t. -/
def cntT (t k : Nat) : Int := if t < k then 1 else 0
theorem cntT_bd (t k : Nat) : 0 ≤ cntT t k ∧ cntT t k ≤ 1 := by unfold cntT; split <;> omega
theorem cntT_hit (t : Nat) : cntT t (t + 1) = cntT t t + 1 := by unfold cntT; rw [if_pos (by omega), if_neg (by omega)]; rfl
theorem cntT_not {t k : Nat} (h : t ≠ k) : cntT t (k + 1) = cntT t k := by
  unfold cntT
  by_cases c : t < k
  · rw [if_pos (by omega), if_pos c]
  · rw [if_neg (by omega), if_neg c]

set_option maxHeartbeats 12800000 in
theorem fnTiles_walk (a : Option Addr) (len cap : Nat) (w : World) (hE : ErrT w) (hc : 1048576 < (len : Int) ∨ CodeIn w a len cap) :
    Calls Tryd.prog 4 #[.slice a len cap] w fun e w' => e = .returned (.bool true) ∧ Below w.heap.size w w' := by
  rcases hc with hbig | ⟨hlen, hnil, hrow⟩
  · go_enter Tryd.func4, Tryd.ntmps4
    go_wp2_with (go_at_call 11; refine (big_yes a len cap _ hbig).mono ?_; rintro e w1 ⟨rfl, hw⟩; subst w1)
    go_ret
    exact ⟨rfl, Below.refl _ _⟩
  have HRow : Hid (CodeRow w w.heap.size a len) := hrow
  obtain ⟨zs, hzl, hcv⟩ := codeV_of hrow
  have HCV : Hid (CodeV w w.heap.size a zs) := hcv
  have E : Hid (∀ w', Below w.heap.size w w' → ErrT w') := fun w' hb => hE.below hb (Nat.le_refl _)
  have okS := (ri_ok zs (newF zs)).1
  have n1 := (ri_ok zs (newF zs)).2.1
  have n2 := (ri_ok zs (newF zs)).2.2.1
  have CD : Hid (∀ w', Below w.heap.size w w' → Calls Tryd.prog 12 #[.slice a len cap] w' _) := fun w' hb => by
    rw [← hzl]; exact drawSets_val a cap w.heap.size zs w' (HCV.out.below hb) hb.size
  clear hrow hcv hE hzl HCV
  generalize riL zs (newF zs) = l at *
  generalize riB zs (newF zs) = b at *
  generalize riX zs (newF zs) = xs at *
  generalize riY zs (newF zs) = ys at *
  generalize piQ zs (riE zs (newF zs)) = q at *
  generalize (piT zs (riE zs (newF zs)) == 0) = g at *
  generalize (piT zs (riE zs (newF zs)) == 1) = x at *
  generalize piC zs (riE zs (newF zs)) = c at *
  have m1 : xs.length ≤ maxLen := by unfold maxLen; omega
  have m2 : ys.length ≤ maxLen := by unfold maxLen; omega
  go_enter Tryd.func4, Tryd.ntmps4
  go_wp2_with (go_at_call 11; refine (big_any a len cap _ hlen).mono ?_; rintro e w1 ⟨rfl, hw⟩; subst w1)
  refine (CD.out w (Below.refl _ _)).mono ?_
  rintro e w1 ⟨a1, a2, c1, c2, t, f, qq, rfl, i1, i2, hb1⟩
  go_wp2_with fail
  generalize hW : World.alloc (World.alloc (World.alloc w1 _) _) _ = W
  have B0 : Blk W w1.heap.size #[.int .i64 l, .int .i64 b, .slice a1 xs.length c1, .slice a2 ys.length c2] 26 := by rw [← hW]; exact ((Blk.new w1 _ _).alloc _).alloc _
  have hbW : Below w1.heap.size w1 W := by rw [← hW]; exact (((Below.refl _ _).alloc (Nat.le_refl _) _).alloc (by simp) _).alloc (by simp; omega) _
  clear hW
  have hb2 := hb1.trans (hbW.mono hb1.size)
  have J : Hid (∀ w', Below W.heap.size W w' → SetIn w' a1 a2 xs ys) := fun w' hb => ⟨⟨i1.below (hbW.trans (hb.mono hbW.size)) (Nat.le_refl _), i2.below (hbW.trans (hb.mono hbW.size)) (Nat.le_refl _), E.out w' (hb2.trans (hb.mono hb2.size))⟩, m1, m2⟩
  have BK : Hid (∀ w', Below W.heap.size W w' → w'.cell? ⟨w1.heap.size, 0, none⟩ = some (.int .i64 l) ∧ w'.cell? ⟨w1.heap.size, 1, none⟩ = some (.int .i64 b) ∧ w'.cell? ⟨w1.heap.size, 2, none⟩ = some (.slice a1 xs.length c1) ∧ w'.cell? ⟨w1.heap.size, 3, none⟩ = some (.slice a2 ys.length c2)) := fun w' hb => (B0.below hb B0.lt).four.1
  clear i1 i2 hb1 hbW B0 CD E
  generalize w1.heap.size = k1 at *
  clear w1
  obtain ⟨⟨gx, nx0, nx1⟩, ⟨gy, ny0, ny1⟩, sx, sy⟩ := seq_sides okS
  -- what the calls answer, wherever they are made
  have CZ : Hid (∀ w', Below W.heap.size W w' → Calls Tryd.prog 18 #[.agg #[.int .i64 l, .int .i64 b, .slice a1 xs.length c1, .slice a2 ys.length c2]] w' (fun e w'' => e = .returned (.tuple #[.int .i64 (8 * sumT xs xs.length), .int .i64 (8 * sumT ys ys.length)]) ∧ Below w'.heap.size w' w'')) := fun w' hb => by
    have := implSizeOf l b a1 a2 c1 c2 xs ys w' (J.out w' hb)
    rwa [szI_yes okS, szI_yes okS, sx, sy] at this
  have CQ : Hid (∀ w', Below W.heap.size W w' → Calls Tryd.prog 14 #[.agg #[.int .i64 l, .int .i64 b, .slice a1 xs.length c1, .slice a2 ys.length c2]] w' (fun e w'' => e = .returned (.int .i64 (sumT xs xs.length * sumT ys ys.length)) ∧ Below w'.heap.size w' w'')) := fun w' hb => by
    have hj := J.out w' hb
    have := implSquares l b a1 a2 c1 c2 xs ys w' hj.1.1 hj.1.2.1 m1 m2
    rwa [show sqI xs ys = sumT xs xs.length * sumT ys ys.length by unfold sqI; rw [sx, sy]] at this
  have CT : Hid (∀ w', Below W.heap.size W w' → Calls Tryd.prog 19 #[.agg #[.int .i64 l, .int .i64 b, .slice a1 xs.length c1, .slice a2 ys.length c2]] w' (fun e w'' => e = .returned (.int .i64 ((xs.length : Int) * (ys.length : Int))) ∧ Below w'.heap.size w' w'')) := fun w' hb => by
    have := implTilesOf l b a1 a2 c1 c2 xs ys w' (J.out w' hb)
    rwa [tilesI_yes okS] at this
  refine (drawPlaces_any a len cap w.heap.size W (HRow.out.below hb2) hb2.size).mono ?_
  rintro e w3 ⟨gp, cp, lp, rfl, hlp, hxp, hown, hc3⟩
  obtain ⟨p0, p1, hp⟩ : ∃ p0 p1 : Int, (0 ≤ p0 ∧ 0 ≤ p1) ∧ ∀ w', Below w3.heap.size w3 w' → w'.cell? ⟨gp, 0, none⟩ = some (.int .i64 p0) ∧ w'.cell? ⟨gp, 1, none⟩ = some (.int .i64 p1) := by
    have hc := hown.cells (g := gp) rfl
    have hlt := (hown.lt gp rfl).2
    have add : ∀ j, (⟨gp, 0, none⟩ : Addr).add j = ⟨gp, j, none⟩ := fun j => by unfold Addr.add; split <;> simp_all
    have e0 := hc 0 (.int .i64 (lp[0]'(by omega))) (by simp [hlp])
    have e1 := hc 1 (.int .i64 (lp[1]'(by omega))) (by simp [hlp])
    rw [add] at e0 e1
    exact ⟨_, _, ⟨(hxp _ (List.getElem_mem _)).1, (hxp _ (List.getElem_mem _)).1⟩, fun w' hb => ⟨(hb.cell (p := ⟨gp, 0, none⟩) hlt).trans e0, (hb.cell (p := ⟨gp, 1, none⟩) hlt).trans e1⟩⟩
  obtain ⟨⟨pp0, pp1⟩, hpc⟩ := hp
  have HP : Hid (∀ w', Below w3.heap.size w3 w' → w'.cell? ⟨gp, 0, none⟩ = some (.int .i64 p0) ∧ w'.cell? ⟨gp, 1, none⟩ = some (.int .i64 p1)) := hpc
  clear hpc hown hxp hlp HRow
  -- the dot, and the one tile that has it
  obtain ⟨bx0, bx1⟩ := sumT_bd xs xs.length (Nat.le_refl _) gx
  obtain ⟨by0, by1⟩ := sumT_bd ys ys.length (Nat.le_refl _) gy
  obtain ⟨X, hX⟩ : ∃ X, Int.tmod p0 (8 * sumT xs xs.length) = X := ⟨_, rfl⟩
  obtain ⟨Y, hY⟩ : ∃ Y, Int.tmod p1 (8 * sumT ys ys.length) = Y := ⟨_, rfl⟩
  have X0 : 0 ≤ X ∧ X < 8 * sumT xs xs.length := by
    rw [← hX, Int.tmod_eq_emod_of_nonneg pp0]
    exact ⟨Int.emod_nonneg _ (by omega), Int.emod_lt_of_pos _ (by omega)⟩
  have Y0 : 0 ≤ Y ∧ Y < 8 * sumT ys ys.length := by
    rw [← hY, Int.tmod_eq_emod_of_nonneg pp1]
    exact ⟨Int.emod_nonneg _ (by omega), Int.emod_lt_of_pos _ (by omega)⟩
  obtain ⟨ci, hci, hcin⟩ := inS_some X0.1 xs.length (Nat.le_refl _) X0.2
  obtain ⟨rj, hrj, hrin⟩ := inS_some Y0.1 ys.length (Nat.le_refl _) Y0.2
  obtain ⟨t0, ht0⟩ : ∃ t0 : Nat, rj * xs.length + ci = t0 := ⟨_, rfl⟩
  have t0N : t0 < xs.length * ys.length := by rw [← ht0]; exact tile_lt hci hrj
  have t0h : hasB xs ys t0 X Y = true := by rw [← ht0]; exact hasB_at hci hcin hrin
  have t0i : ∀ k, k < xs.length * ys.length → (hasB xs ys k X Y = true ↔ k = t0) := fun k hk => ⟨fun h => hasB_uniq gx gy (by omega) hk t0N h t0h, fun h => by rw [h]; exact t0h⟩
  have T0 : Hid (t0 < xs.length * ys.length ∧ ∀ k, k < xs.length * ys.length → (hasB xs ys k X Y = true ↔ k = t0)) := ⟨t0N, t0i⟩
  have CA : Hid (∀ w', Below W.heap.size W w' → Calls Tryd.prog 21 #[.agg #[.int .i64 l, .int .i64 b, .slice a1 xs.length c1, .slice a2 ys.length c2], .int .i64 X, .int .i64 Y] w' (fun e w'' => e = .returned (.int .i64 (t0 : Int)) ∧ Below w'.heap.size w' w'')) := fun w' hb => by
    have := implTileAt l b a1 a2 c1 c2 xs ys X Y w' (J.out w' hb)
    rwa [atI_hit okS t0N t0h] at this
  have CR : Hid (∀ w' (k : Nat), k < xs.length * ys.length → Below W.heap.size W w' → Calls Tryd.prog 20 #[.agg #[.int .i64 l, .int .i64 b, .slice a1 xs.length c1, .slice a2 ys.length c2], .int .i64 (k : Int)] w' (fun e w'' => e = .returned (.tuple #[.agg #[.int .i64 (rL xs ys k), .int .i64 (rT xs ys k), .int .i64 (rW xs ys k), .int .i64 (rH xs ys k)], .bool true]) ∧ Below w'.heap.size w' w'')) := fun w' k hk hb => by
    have := implTileRect l b a1 a2 c1 c2 xs ys (k : Int) w' (J.out w' hb)
    rwa [rectV_yes (okT_of okS hk), okT_of okS hk] at this
  have CS : Hid (∀ w' (k : Nat), k < xs.length * ys.length → Below W.heap.size W w' → Calls Tryd.prog 22 #[.agg #[.int .i64 l, .int .i64 b, .slice a1 xs.length c1, .slice a2 ys.length c2], .int .i64 (k : Int)] w' (fun e w'' => e = .returned (.int .i64 (rS xs ys k)) ∧ Below w'.heap.size w' w'')) := fun w' k hk hb => by
    have := implTileSquares l b a1 a2 c1 c2 xs ys (k : Int) w' (J.out w' hb)
    rwa [zR_yes (okT_of okS hk)] at this
  have RB : Hid (∀ k, k < xs.length * ys.length → ((0 ≤ rL xs ys k ∧ rL xs ys k ≤ 1000) ∧ (0 ≤ rT xs ys k ∧ rT xs ys k ≤ 1000) ∧ (8 ≤ rW xs ys k ∧ rW xs ys k ≤ 64) ∧ (8 ≤ rH xs ys k ∧ rH xs ys k ≤ 64)) ∧ (hasB xs ys k X Y = (decide (rL xs ys k ≤ X) && decide (X < rL xs ys k + rW xs ys k) && (decide (rT xs ys k ≤ Y) && decide (Y < rT xs ys k + rH xs ys k)))) ∧ sqT xs ys (k + 1) = sqT xs ys k + rS xs ys k ∧ (0 ≤ sqT xs ys k ∧ sqT xs ys k ≤ 1024) ∧ 0 ≤ rS xs ys k ∧ rS xs ys k ≤ 64) := fun k hk => by
    have hm : k % xs.length < xs.length := Nat.mod_lt _ (by omega)
    have hd : k / xs.length < ys.length := div_lt' hk
    obtain ⟨s0, s1⟩ := sumT_bd xs (k % xs.length) (by omega) (fun i hi => gx i (by omega))
    obtain ⟨s2, s3⟩ := sumT_bd ys (k / xs.length) (by omega) (fun i hi => gy i (by omega))
    obtain ⟨g0, g1⟩ := gx _ hm
    obtain ⟨g2, g3⟩ := gy _ hd
    have hb := sqT_bd xs ys gx gy (by omega) k (by omega)
    have h16 := mul_le4 nx1 ny1
    refine ⟨⟨by unfold rL; omega, by unfold rT; omega, by unfold rW; omega, by unfold rH; omega⟩, rfl, sqT_succ xs ys k, by omega, ?_, ?_⟩
    · exact Int.mul_nonneg (by omega) (by omega)
    · have : xs.getD (k % xs.length) 0 * ys.getD (k / xs.length) 0 ≤ 8 * 8 := Int.mul_le_mul g1 g3 (by omega) (by omega)
      exact this
  have SA : Hid (sqT xs ys (xs.length * ys.length) = sumT xs xs.length * sumT ys ys.length) := sqT_all xs ys (by omega)
  have hNI : (xs.length : Int) * (ys.length : Int) = ((xs.length * ys.length : Nat) : Int) := by rw [Int.natCast_mul]
  have h16 := mul_le4 nx1 ny1
  have hsq0 : 0 ≤ sumT xs xs.length * sumT ys ys.length := Int.mul_nonneg (by omega) (by omega)
  have hsq1 : sumT xs xs.length * sumT ys ys.length ≤ 32 * 32 := Int.mul_le_mul (by omega) (by omega) (by omega) (by omega)
  have w1 : IntKind.i64.wrap (8 * sumT xs xs.length * (8 * sumT ys ys.length)) = 64 * (sumT xs xs.length * sumT ys ys.length) := by
    rw [show 8 * sumT xs xs.length * (8 * sumT ys ys.length) = 64 * (sumT xs xs.length * sumT ys ys.length) by rw [Int.mul_assoc, Int.mul_left_comm (sumT xs xs.length) 8, ← Int.mul_assoc 8 8]; rfl]
    exact IntWalk.i64_in _ ⟨by omega, by omega⟩
  have w2 : IntKind.i64.wrap (64 * (sumT xs xs.length * sumT ys ys.length)) = 64 * (sumT xs xs.length * sumT ys ys.length) := IntWalk.i64_in _ ⟨by omega, by omega⟩
  have w3' : IntKind.i64.wrap ((xs.length : Int) * (ys.length : Int)) = (xs.length : Int) * (ys.length : Int) := by rw [hNI]; exact IntWalk.i64_in _ ⟨by omega, by omega⟩
  have w4' : wrap64 ((xs.length : Int) * (ys.length : Int)) = (xs.length : Int) * (ys.length : Int) := by rw [hNI]; exact IntWalk.wrap64_in _ ⟨by omega, by omega⟩
  have z1 : decide (8 * sumT xs xs.length < 8) = false := by simp; omega
  have z2 : decide (8 * sumT ys ys.length < 8) = false := by simp; omega
  have z3 : (8 * sumT xs xs.length == 0) = false := by rw [beq_eq_false_iff_ne]; omega
  have z4 : (8 * sumT ys ys.length == 0) = false := by rw [beq_eq_false_iff_ne]; omega
  have HNI : Hid ((xs.length : Int) * (ys.length : Int) = ((xs.length * ys.length : Nat) : Int)) := hNI
  clear gx gy sx sy t0i t0N t0h hcin hrin hci hrj ht0 hNI J okS
  generalize sumT xs xs.length * sumT ys ys.length = sq at *
  generalize 8 * sumT xs xs.length = Wd at *
  generalize 8 * sumT ys ys.length = Hd at *
  obtain ⟨x0, x1, x2, x3⟩ := BK.out w3 hc3
  go_wp2_with fail
  refine (CZ.out w3 hc3).mono ?_
  rintro e w4 ⟨rfl, hr4⟩
  have hc4 := hc3.trans (hr4.mono hc3.size)
  have hq4 : Below w3.heap.size w3 w4 := hr4
  clear hr4 x0 x1 x2 x3 CZ hc3
  obtain ⟨x0, x1, x2, x3⟩ := BK.out w4 hc4
  go_wp2_with fail
  go_region_held3 (fun w' => w'.cell? ⟨k1, 0, none⟩ = some (.int .i64 l) ∧ w'.cell? ⟨k1, 1, none⟩ = some (.int .i64 b) ∧ w'.cell? ⟨k1, 2, none⟩ = some (.slice a1 xs.length c1) ∧ w'.cell? ⟨k1, 3, none⟩ = some (.slice a2 ys.length c2))
    (first | go_keep | exact BK.out _ hcB | exact BK.out _ hcA)
    (first
      | (go_at_call 14; refine (CQ.out _ hc4.drew).mono ?_; rintro e wA ⟨rfl, hrA⟩; have hcA : Below W.heap.size W wA := hc4.drew.trans (hrA.mono hc4.drew.size); have hqA : Below w3.heap.size w3 wA := hq4.drew.trans (hrA.mono hq4.drew.size); clear hrA)
      | (go_at_call 19; refine (CT.out _ hcA).mono ?_; rintro e wB ⟨rfl, hrB⟩; have hcB : Below W.heap.size W wB := hcA.trans (hrB.mono hcA.size); have hqB : Below w3.heap.size w3 wB := hqA.trans (hrB.mono hqA.size); clear hrB))
  clear hcA hqA hc4 hq4 x0 x1 x2 x3 CT
  obtain ⟨d0, d1⟩ := HP.out wB hqB
  obtain ⟨x0, x1, x2, x3⟩ := BK.out wB hcB
  go_wp2_with fail
  have w5 : wrap64 ((xs.length : Int) * (ys.length : Int)) = ((xs.length * ys.length : Nat) : Int) := w4'.trans HNI.out
  clear w1 w2 w3' w4' HNI z1 z2 z3 z4 hX hY d0 d1 x0 x1 x2 x3 HP hqB hsq0 hsq1 bx0 bx1 by0 by1 X0 Y0 pp0 pp1 nx0 nx1 ny0 ny1 hlen hnil m1 m2
  obtain ⟨t0N, t0i⟩ := T0.out
  have T1 : Hid (∀ k, k < xs.length * ys.length → (hasB xs ys k X Y = true ↔ k = t0)) := t0i
  have hbB : Below W.heap.size W wB := hcB
  clear T0 t0i hcB
  generalize xs.length * ys.length = N at *
  have hN : (N : Int) ≤ 16 := by omega
  go_loopw [11, 12, 13] (fun s i v wr => ∃ k : Nat, k ≤ N ∧ v = .int .i64 (k : Int) ∧ i = .int .i64 (cntT t0 k) ∧ s = .int .i64 (sqT xs ys k) ∧ Below W.heap.size W wr)
    (fun _ _ v _ => N - (intOf v).toNat)
  case atStart => exact ⟨0, Nat.zero_le _, rfl, by rfl, by rfl, hbB⟩
  case round =>
    obtain ⟨k, hk, rfl, rfl, rfl, hb⟩ := hrel
    clear hbB
    obtain ⟨x0, x1, x2, x3⟩ := BK.out wr hb
    obtain ⟨cn0, cn1⟩ := cntT_bd t0 k
    have l0 : (0 : Int) ≤ (k : Int) := by omega
    by_cases hlt : k < N
    · have l1 : (k : Int) < (N : Int) := by omega
      obtain ⟨⟨⟨b0, b1⟩, ⟨b2, b3⟩, ⟨b4, b5⟩, b6, b7⟩, hh, hsn, ⟨q0, q1⟩, r0, r1⟩ := RB.out k hlt
      have CRk : Hid (∀ w', Below W.heap.size W w' → Calls Tryd.prog 20 #[.agg #[.int .i64 l, .int .i64 b, .slice a1 xs.length c1, .slice a2 ys.length c2], .int .i64 (k : Int)] w' (fun e w'' => e = .returned (.tuple #[.agg #[.int .i64 (rL xs ys k), .int .i64 (rT xs ys k), .int .i64 (rW xs ys k), .int .i64 (rH xs ys k)], .bool true]) ∧ Below w'.heap.size w' w'')) := fun w' h => CR.out w' k hlt h
      have CSk : Hid (∀ w', Below W.heap.size W w' → Calls Tryd.prog 22 #[.agg #[.int .i64 l, .int .i64 b, .slice a1 xs.length c1, .slice a2 ys.length c2], .int .i64 (k : Int)] w' (fun e w'' => e = .returned (.int .i64 (rS xs ys k)) ∧ Below w'.heap.size w' w'')) := fun w' h => CS.out w' k hlt h
      have HSn : Hid (sqT xs ys (k + 1) = sqT xs ys k + rS xs ys k) := hsn
      have HH : Hid (hasB xs ys k X Y = (decide (rL xs ys k ≤ X) && decide (X < rL xs ys k + rW xs ys k) && (decide (rT xs ys k ≤ Y) && decide (Y < rT xs ys k + rH xs ys k)))) := hh
      have HT1 := T1.out k hlt
      clear hsn hh CR CS RB
      generalize rL xs ys k = vL at *
      generalize rT xs ys k = vT at *
      generalize rW xs ys k = vW at *
      generalize rH xs ys k = vH at *
      generalize rS xs ys k = vS at *
      obtain ⟨cn, hcn⟩ : ∃ cn, cntT t0 k = cn := ⟨_, rfl⟩
      obtain ⟨sk, hsk⟩ : ∃ sk, sqT xs ys k = sk := ⟨_, rfl⟩
      rw [hsk] at HSn q0 q1 ⊢
      rw [hcn] at cn0 cn1 ⊢
      cases hbk : hasB xs ys k X Y with
      | true =>
        have e0 := HT1.1 hbk
        rw [HH.out] at hbk
        simp only [Bool.and_eq_true, decide_eq_true_eq] at hbk
        obtain ⟨⟨e1, e2⟩, e3, e4⟩ := hbk
        clear HT1 T1
        subst e0
        have HCn : Hid (cntT k (k + 1) = cn + 1) := by rw [← hcn]; exact cntT_hit k
        clear HH hcn hsk
        go_wp2_with (first
          | (go_at_call 20; refine (CRk.out _ hb).mono ?_; rintro e wA ⟨rfl, hrA⟩; have hA := hb.trans (hrA.mono hb.size); have hA2 := hA.alloc hA.size (.cells #[.int .i64 vL, .int .i64 vT, .int .i64 vW, .int .i64 vH] 41); obtain ⟨y0, y1, y2, y3⟩ := BK.out _ hA2; clear hrA hA)
          | (go_at_call 21; refine (CA.out _ hA2).mono ?_; rintro e wB ⟨rfl, hrB⟩; have hB := hA2.trans (hrB.mono hA2.size); obtain ⟨u0, u1, u2, u3⟩ := BK.out _ hB; clear hrB)
          | (go_at_call 22; refine (CSk.out _ hB).mono ?_; rintro e wC ⟨rfl, hrC⟩; have hC := hB.trans (hrC.mono hB.size); clear hrC))
        go_roundw
        case rel => exact ⟨k + 1, by omega, by go_num, by rw [HCn.out], by rw [HSn.out], hC⟩
        case measure => simp [intOf]; omega
      | false =>
        have ne1 : t0 ≠ k := by
          intro h
          have := HT1.2 h.symm
          rw [hbk] at this; cases this
        have HCn : Hid (cntT t0 (k + 1) = cn) := by rw [← hcn]; exact cntT_not ne1
        have qk : ((t0 : Int) == (k : Int)) = false := by rw [beq_eq_false_iff_ne]; omega
        have qk' : (t0 == k) = false := by rw [beq_eq_false_iff_ne]; exact ne1
        rw [HH.out] at hbk
        clear HT1 HH hcn hsk
        by_cases e1 : vL ≤ X
        · by_cases e2 : X < vL + vW
          · by_cases e3 : vT ≤ Y
            · have e4 : ¬ Y < vT + vH := by
                intro e4
                simp [e1, e2, e3, e4] at hbk
              clear hbk
              go_wp2_with (first
                | (go_at_call 20; refine (CRk.out _ hb).mono ?_; rintro e wA ⟨rfl, hrA⟩; have hA := hb.trans (hrA.mono hb.size); have hA2 := hA.alloc hA.size (.cells #[.int .i64 vL, .int .i64 vT, .int .i64 vW, .int .i64 vH] 41); obtain ⟨y0, y1, y2, y3⟩ := BK.out _ hA2; clear hrA hA)
                | (go_at_call 21; refine (CA.out _ hA2).mono ?_; rintro e wB ⟨rfl, hrB⟩; have hB := hA2.trans (hrB.mono hA2.size); obtain ⟨u0, u1, u2, u3⟩ := BK.out _ hB; clear hrB)
                | (go_at_call 22; refine (CSk.out _ hB).mono ?_; rintro e wC ⟨rfl, hrC⟩; have hC := hB.trans (hrC.mono hB.size); clear hrC))
              go_roundw
              case rel => exact ⟨k + 1, by omega, by go_num, by rw [HCn.out], by rw [HSn.out], hC⟩
              case measure => simp [intOf]; omega
            · clear hbk
              go_wp2_with (first
                | (go_at_call 20; refine (CRk.out _ hb).mono ?_; rintro e wA ⟨rfl, hrA⟩; have hA := hb.trans (hrA.mono hb.size); have hA2 := hA.alloc hA.size (.cells #[.int .i64 vL, .int .i64 vT, .int .i64 vW, .int .i64 vH] 41); obtain ⟨y0, y1, y2, y3⟩ := BK.out _ hA2; clear hrA hA)
                | (go_at_call 21; refine (CA.out _ hA2).mono ?_; rintro e wB ⟨rfl, hrB⟩; have hB := hA2.trans (hrB.mono hA2.size); obtain ⟨u0, u1, u2, u3⟩ := BK.out _ hB; clear hrB)
                | (go_at_call 22; refine (CSk.out _ hB).mono ?_; rintro e wC ⟨rfl, hrC⟩; have hC := hB.trans (hrC.mono hB.size); clear hrC))
              go_roundw
              case rel => exact ⟨k + 1, by omega, by go_num, by rw [HCn.out], by rw [HSn.out], hC⟩
              case measure => simp [intOf]; omega
          · clear hbk
            go_wp2_with (first
              | (go_at_call 20; refine (CRk.out _ hb).mono ?_; rintro e wA ⟨rfl, hrA⟩; have hA := hb.trans (hrA.mono hb.size); have hA2 := hA.alloc hA.size (.cells #[.int .i64 vL, .int .i64 vT, .int .i64 vW, .int .i64 vH] 41); obtain ⟨y0, y1, y2, y3⟩ := BK.out _ hA2; clear hrA hA)
              | (go_at_call 21; refine (CA.out _ hA2).mono ?_; rintro e wB ⟨rfl, hrB⟩; have hB := hA2.trans (hrB.mono hA2.size); obtain ⟨u0, u1, u2, u3⟩ := BK.out _ hB; clear hrB)
              | (go_at_call 22; refine (CSk.out _ hB).mono ?_; rintro e wC ⟨rfl, hrC⟩; have hC := hB.trans (hrC.mono hB.size); clear hrC))
            go_roundw
            case rel => exact ⟨k + 1, by omega, by go_num, by rw [HCn.out], by rw [HSn.out], hC⟩
            case measure => simp [intOf]; omega
        · clear hbk
          go_wp2_with (first
            | (go_at_call 20; refine (CRk.out _ hb).mono ?_; rintro e wA ⟨rfl, hrA⟩; have hA := hb.trans (hrA.mono hb.size); have hA2 := hA.alloc hA.size (.cells #[.int .i64 vL, .int .i64 vT, .int .i64 vW, .int .i64 vH] 41); obtain ⟨y0, y1, y2, y3⟩ := BK.out _ hA2; clear hrA hA)
            | (go_at_call 21; refine (CA.out _ hA2).mono ?_; rintro e wB ⟨rfl, hrB⟩; have hB := hA2.trans (hrB.mono hA2.size); obtain ⟨u0, u1, u2, u3⟩ := BK.out _ hB; clear hrB)
            | (go_at_call 22; refine (CSk.out _ hB).mono ?_; rintro e wC ⟨rfl, hrC⟩; have hC := hB.trans (hrC.mono hB.size); clear hrC))
          go_roundw
          case rel => exact ⟨k + 1, by omega, by go_num, by rw [HCn.out], by rw [HSn.out], hC⟩
          case measure => simp [intOf]; omega
    · obtain rfl : k = N := by omega
      have HV : Hid (cntT t0 k = 1 ∧ sqT xs ys k = sq) := ⟨by unfold cntT; rw [if_pos t0N], SA.out⟩
      rw [HV.out.1, HV.out.2]
      go_wp2_with (go_at_call 14; refine (CQ.out _ hb).mono ?_; rintro e wA ⟨rfl, hrA⟩)
      go_ret
      exact ⟨rfl, (hb2.trans (hb.mono hb2.size)).trans (hrA.mono (Nat.le_trans hb2.size hb.size))⟩
end Go.Proofs.YtigcoboaeibcjaaDoor
