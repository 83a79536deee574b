/-
  The walk of laws.FnCuts.
-/
import Derived.Test.YtpodpfdbklffgaaCodeKit
import Derived.Test.YtpodpfdbklffgaaDrawPlaces
import Derived.Test.YtpodpfdbklffgaaCutsMath
import Derived.Test.YtpodpfdbklffgaaPicPics
import Derived.Test.YtpodpfdbklffgaaPasteOf
import Derived.Test.YtpodpfdbklffgaaApartKit
import Derived.Deep.CutRange
import Derived.Deep.RegionHeld3
import Derived.Deep.RegionWith
namespace Go.Proofs.Ytpodpfdbklffgaa
open Go.RowKit
set_option linter.unusedVariables false
set_option maxRecDepth 20000

/-- The cells of two pictures of one size and of six numbers. -/
abbrev CutsIn (w : World) (ga gb gp : Nat) (W H : Int) (s u : ByteArray) (p0 p1 p2 p3 p4 p5 : Int) : Prop :=
  (w.cell? ⟨ga, 0, none⟩ = some (.int .i64 W) ∧ w.cell? ⟨ga, 1, none⟩ = some (.int .i64 H) ∧ w.cell? ⟨ga, 2, none⟩ = some (.string s)) ∧
  (w.cell? ⟨gb, 0, none⟩ = some (.int .i64 W) ∧ w.cell? ⟨gb, 1, none⟩ = some (.int .i64 H) ∧ w.cell? ⟨gb, 2, none⟩ = some (.string u)) ∧
  (w.cell? ⟨gp, 0, none⟩ = some (.int .i64 p0) ∧ w.cell? ⟨gp, 1, none⟩ = some (.int .i64 p1) ∧ w.cell? ⟨gp, 2, none⟩ = some (.int .i64 p2) ∧ w.cell? ⟨gp, 3, none⟩ = some (.int .i64 p3) ∧ w.cell? ⟨gp, 4, none⟩ = some (.int .i64 p4) ∧ w.cell? ⟨gp, 5, none⟩ = some (.int .i64 p5))

/-- The same and where a rectangle begins. -/
abbrev CutsR (w : World) (ga gb gp gr : Nat) (W H : Int) (s u : ByteArray) (p0 p1 p2 p3 p4 p5 l t : Int) : Prop :=
  CutsIn w ga gb gp W H s u p0 p1 p2 p3 p4 p5 ∧ w.cell? ⟨gr, 0, none⟩ = some (.int .i64 l) ∧ w.cell? ⟨gr, 1, none⟩ = some (.int .i64 t)

/-- All cells that the law's last rows read. -/
abbrev CutsAll (w : World) (ga gb gp gr gc gd ge : Nat) (W H : Int) (s u C D : ByteArray) (p0 p1 p2 p3 p4 p5 l t aa bb : Int) : Prop :=
  (((CutsIn w ga gb gp W H s u p0 p1 p2 p3 p4 p5 ∧ (w.cell? ⟨gr, 0, none⟩ = some (.int .i64 l) ∧ w.cell? ⟨gr, 1, none⟩ = some (.int .i64 t) ∧ w.cell? ⟨gr, 2, none⟩ = some (.int .i64 aa) ∧ w.cell? ⟨gr, 3, none⟩ = some (.int .i64 bb))) ∧ (w.cell? ⟨gc, 0, none⟩ = some (.int .i64 aa) ∧ w.cell? ⟨gc, 1, none⟩ = some (.int .i64 bb) ∧ w.cell? ⟨gc, 2, none⟩ = some (.string C))) ∧ (w.cell? ⟨gd, 0, none⟩ = some (.int .i64 W) ∧ w.cell? ⟨gd, 1, none⟩ = some (.int .i64 H) ∧ w.cell? ⟨gd, 2, none⟩ = some (.string D))) ∧ (w.cell? ⟨ge, 0, none⟩ = some (.int .i64 aa) ∧ w.cell? ⟨ge, 1, none⟩ = some (.int .i64 bb) ∧ w.cell? ⟨ge, 2, none⟩ = some (.string C))
theorem textList_inj {s t : ByteArray} (h : s.toList = t.toList) : s = t := by
  rw [Go.ByteArray.toList_eq, Go.ByteArray.toList_eq] at h
  exact ByteArray.ext (Array.ext' h)

theorem below_drewN {B : Nat} {w w' : World} (h : Below B w w') : ∀ n, Below B w (w'.drewN n)
  | 0 => h
  | n + 1 => (below_drewN h n).drew

set_option maxHeartbeats 8000000 in
theorem fnCuts_walk (a : Option Addr) (len cap : Nat) (w : World) (hc : CodeIn w a len cap) :
    Calls Try.prog 3 #[.slice a len cap] w fun e w' => e = .returned (.bool true) ∧ Below w.heap.size w w' := by
  obtain ⟨hlen, _, hrow⟩ := hc
  have HRow : Hid (CodeRow w w.heap.size a len) := hrow
  clear hrow
  go_enter Try.func3, Try.ntmps3
  go_wp2_with fail
  refine (big_any a len cap w hlen).mono ?_
  rintro e w0 ⟨rfl, hw⟩
  subst w0
  go_wp2_with fail
  refine (drawPics_any a len cap w.heap.size w HRow.out (Nat.le_refl _)).mono ?_
  rintro e w1 ⟨W, H, s, u, rfl, hs, hu, hW16, hH16, hb1⟩
  go_wp2_with fail
  have A1 := (Blk.new w1 #[.int .i64 W, .int .i64 H, .string s] 25).alloc (.cells #[.int .i64 W, .int .i64 H, .string u] 25)
  have B1 : Blk ((w1.alloc (.cells #[.int .i64 W, .int .i64 H, .string s] 25)).alloc (.cells #[.int .i64 W, .int .i64 H, .string u] 25)) (w1.heap.size + 1) #[.int .i64 W, .int .i64 H, .string u] 25 := Blk.new' _ _ (by simp)
  have hbX := (hb1.alloc hb1.size (.cells #[.int .i64 W, .int .i64 H, .string s] 25)).alloc (by have := hb1.size; simp; omega) (.cells #[.int .i64 W, .int .i64 H, .string u] 25)
  generalize World.alloc (World.alloc w1 _) _ = X at *
  clear hb1
  generalize w1.heap.size = ga at *
  have hcX : CodeRow X w.heap.size a len := HRow.out.below hbX
  refine (drawPlaces_any a len cap w.heap.size X hcX hbX.size).mono ?_
  rintro e w2 ⟨gp, cp, L, rfl, hl, hall, hown, hc2⟩
  have A2 := A1.below hc2 A1.lt
  have B2 := B1.below hc2 B1.lt
  have hgp := (hown.lt gp rfl)
  have hb2 := hbX.trans (hc2.mono hbX.size)
  have hgb := B1.lt
  have HC : Hid (∀ w', Below w2.heap.size w2 w' → ∀ j, j < 12 → w'.cell? ⟨gp, j, none⟩ = some (.int .i64 (L.getD j 0))) := fun w' hb j hj => (hb.cell (p := ⟨gp, j, none⟩) hgp.2).trans (cellI hown hl j hj)
  obtain ⟨p0, h0⟩ : ∃ x, L.getD 0 0 = x := ⟨_, rfl⟩
  obtain ⟨p1, h1⟩ : ∃ x, L.getD 1 0 = x := ⟨_, rfl⟩
  obtain ⟨p2, h2⟩ : ∃ x, L.getD 2 0 = x := ⟨_, rfl⟩
  obtain ⟨p3, h3⟩ : ∃ x, L.getD 3 0 = x := ⟨_, rfl⟩
  obtain ⟨p4, h4⟩ : ∃ x, L.getD 4 0 = x := ⟨_, rfl⟩
  obtain ⟨p5, h5⟩ : ∃ x, L.getD 5 0 = x := ⟨_, rfl⟩
  have n0 := getD_in hl (show 0 < 12 by omega) hall
  have n1 := getD_in hl (show 1 < 12 by omega) hall
  have n2 := getD_in hl (show 2 < 12 by omega) hall
  have n3 := getD_in hl (show 3 < 12 by omega) hall
  have n4 := getD_in hl (show 4 < 12 by omega) hall
  have n5 := getD_in hl (show 5 < 12 by omega) hall
  rw [h0] at n0
  rw [h1] at n1
  rw [h2] at n2
  rw [h3] at n3
  rw [h4] at n4
  rw [h5] at n5
  have DK : Hid (∀ w', Below w2.heap.size w2 w' → CutsIn w' ga (ga + 1) gp W H s u p0 p1 p2 p3 p4 p5) := fun w' hb => ⟨(A2.below hb A2.lt).three.1, (B2.below hb B2.lt).three.1, by
    rw [← h0, ← h1, ← h2, ← h3, ← h4, ← h5]
    exact ⟨HC.out w' hb 0 (by omega), HC.out w' hb 1 (by omega), HC.out w' hb 2 (by omega), HC.out w' hb 3 (by omega), HC.out w' hb 4 (by omega), HC.out w' hb 5 (by omega)⟩⟩
  have gl1 : ga + 1 < w2.heap.size := B2.lt
  have gl2 : gp < w2.heap.size := hgp.2
  clear h0 h1 h2 h3 h4 h5 HC hown hl hall HRow A1 B1 A2 B2 hcX hbX hc2 hgp hgb
  have hsB := picB_iff.1 hs
  have huB := picB_iff.1 hu
  have hW1 : 1 ≤ W ∧ W ≤ 16 := ⟨hsB.1.1, hW16⟩
  have hH1 : 1 ≤ H ∧ H ≤ 16 := ⟨hsB.2.1.1, hH16⟩
  have HS : Hid (picB W H s = true ∧ picB W H u = true) := ⟨hs, hu⟩
  clear hsB huB hs hu hW16 hH16
  have nW : ¬ W = 0 := by omega
  have nH : ¬ H = 0 := by omega
  obtain ⟨l, hl⟩ : ∃ l, Int.tmod p0 W = l := ⟨_, rfl⟩
  obtain ⟨t, ht⟩ : ∃ t, Int.tmod p1 H = t := ⟨_, rfl⟩
  have l0 : 0 ≤ l ∧ l < W := by rw [← hl, Int.tmod_eq_emod_of_nonneg n0.1]; exact ⟨Int.emod_nonneg _ nW, Int.emod_lt_of_pos _ (by omega)⟩
  have t0 : 0 ≤ t ∧ t < H := by rw [← ht, Int.tmod_eq_emod_of_nonneg n1.1]; exact ⟨Int.emod_nonneg _ nH, Int.emod_lt_of_pos _ (by omega)⟩
  obtain ⟨⟨a0, a1, a2⟩, ⟨b0, b1, b2⟩, d0, d1, d2, d3, d4, d5⟩ := DK.out w2 (Below.refl _ _)
  have K0 := DK.out w2.drew (Below.refl w2.heap.size w2).drew
  have K1 := DK.out _ ((Below.refl w2.heap.size w2).alloc (Nat.le_refl _) (.cells #[.int .i64 0, .int .i64 0, .int .i64 0, .int .i64 0] 31)).drew
  have K2 := DK.out _ ((Below.refl w2.heap.size w2).alloc (Nat.le_refl _) (.cells #[.int .i64 l, .int .i64 t, .int .i64 0, .int .i64 0] 31)).drew
  go_wp2_with fail
  go_region_held3 (fun w' => ((w'.cell? ⟨ga, 0, none⟩ = some (.int .i64 W) ∧ w'.cell? ⟨ga, 1, none⟩ = some (.int .i64 H) ∧ w'.cell? ⟨ga, 2, none⟩ = some (.string s)) ∧ (w'.cell? ⟨ga + 1, 0, none⟩ = some (.int .i64 W) ∧ w'.cell? ⟨ga + 1, 1, none⟩ = some (.int .i64 H) ∧ w'.cell? ⟨ga + 1, 2, none⟩ = some (.string u)) ∧ (w'.cell? ⟨gp, 0, none⟩ = some (.int .i64 p0) ∧ w'.cell? ⟨gp, 1, none⟩ = some (.int .i64 p1) ∧ w'.cell? ⟨gp, 2, none⟩ = some (.int .i64 p2) ∧ w'.cell? ⟨gp, 3, none⟩ = some (.int .i64 p3) ∧ w'.cell? ⟨gp, 4, none⟩ = some (.int .i64 p4) ∧ w'.cell? ⟨gp, 5, none⟩ = some (.int .i64 p5))))
    (first | with_reducible exact K0 | with_reducible exact K1 | with_reducible exact K2)
    (fail)
  have hR0 : Below w2.heap.size w2 (w2.alloc (.cells #[.int .i64 l, .int .i64 t, .int .i64 0, .int .i64 0] 31)).drew := ((Below.refl w2.heap.size w2).alloc (Nat.le_refl _) _).drew
  have BR0 : Blk (w2.alloc (.cells #[.int .i64 l, .int .i64 t, .int .i64 0, .int .i64 0] 31)).drew w2.heap.size #[.int .i64 l, .int .i64 t, .int .i64 0, .int .i64 0] 31 := (Blk.new w2 _ _).drew
  clear K0 K1 K2 a0 a1 a2 b0 b1 b2 d0 d1 d2 d3 d4 d5 hl ht
  generalize (w2.alloc (.cells #[.int .i64 l, .int .i64 t, .int .i64 0, .int .i64 0] 31)).drew = R0 at *
  have DR : Hid (∀ w', Below w2.heap.size w2 w' → CutsIn w' ga (ga + 1) gp W H s u p0 p1 p2 p3 p4 p5) := DK.out
  have hwb : Hid (Below w.heap.size w w2) := hb2
  clear hb2 DK
  obtain ⟨gr, hgr⟩ : ∃ gr, gr = w2.heap.size := ⟨_, rfl⟩
  rw [← hgr] at gl1 gl2 hR0 BR0 DR
  have HB2 : Hid (gr = w2.heap.size) := hgr
  try rw [← hgr]
  clear hgr
  obtain ⟨wl, hwl⟩ : ∃ wl, W - l = wl := ⟨_, rfl⟩
  obtain ⟨hl, hhl⟩ : ∃ hl, H - t = hl := ⟨_, rfl⟩
  have g1 : IntKind.i64.wrap (W - l) = wl := by rw [hwl]; exact IntWalk.i64_in _ ⟨by omega, by omega⟩
  have g2 : IntKind.i64.wrap (H - t) = hl := by rw [hhl]; exact IntWalk.i64_in _ ⟨by omega, by omega⟩
  have wl1 : 1 ≤ wl := by omega
  have hl1 : 1 ≤ hl := by omega
  have nwl : ¬ wl = 0 := by omega
  have nhl : ¬ hl = 0 := by omega
  obtain ⟨q2, hq2⟩ : ∃ q2, Int.tmod p2 wl = q2 := ⟨_, rfl⟩
  obtain ⟨q3, hq3⟩ : ∃ q3, Int.tmod p3 hl = q3 := ⟨_, rfl⟩
  have q2b : 0 ≤ q2 ∧ q2 < wl := by rw [← hq2, Int.tmod_eq_emod_of_nonneg n2.1]; exact ⟨Int.emod_nonneg _ nwl, Int.emod_lt_of_pos _ (by omega)⟩
  have q3b : 0 ≤ q3 ∧ q3 < hl := by rw [← hq3, Int.tmod_eq_emod_of_nonneg n3.1]; exact ⟨Int.emod_nonneg _ nhl, Int.emod_lt_of_pos _ (by omega)⟩
  obtain ⟨aa, haa⟩ : ∃ aa, 1 + q2 = aa := ⟨_, rfl⟩
  obtain ⟨bb, hbb⟩ : ∃ bb, 1 + q3 = bb := ⟨_, rfl⟩
  have g3 : IntKind.i64.wrap (1 + q2) = aa := by rw [haa]; exact IntWalk.i64_in _ ⟨by omega, by omega⟩
  have g4 : IntKind.i64.wrap (1 + q3) = bb := by rw [hbb]; exact IntWalk.i64_in _ ⟨by omega, by omega⟩
  have aab : 1 ≤ aa ∧ l ≤ W - aa := by omega
  have bbb : 1 ≤ bb ∧ t ≤ H - bb := by omega
  clear haa hbb hwl hhl q2b q3b wl1 hl1
  obtain ⟨⟨a0, a1, a2⟩, ⟨b0, b1, b2⟩, d0, d1, d2, d3, d4, d5⟩ := DR.out R0 hR0
  have r0 := BR0.cell 0
  have r1 := BR0.cell 1
  have r2 := BR0.cell 2
  have fr2 := BR0.frozen 2
  simp only [List.getElem?_toArray, List.getElem?_cons_zero, List.getElem?_cons_succ] at r0 r1 r2
  have KR : Hid (∀ w' v2 v3, Below gr w2 w' → Blk w' gr #[.int .i64 l, .int .i64 t, v2, v3] 31 → CutsR w' ga (ga + 1) gp gr W H s u p0 p1 p2 p3 p4 p5 l t) := fun w' v2 v3 h hb => ⟨DR.out w' h, hb.cell 0, hb.cell 1⟩
  have hR1 : Below gr w2 (R0.setCell ⟨gr, 2, none⟩ (.int .i64 aa)).drew := (hR0.setCell (p := ⟨gr, 2, none⟩) (Nat.le_refl _) _).drew
  have BR1 : Blk (R0.setCell ⟨gr, 2, none⟩ (.int .i64 aa)).drew gr #[.int .i64 l, .int .i64 t, .int .i64 aa, .int .i64 0] 31 := (BR0.set 2 (.int .i64 aa) (by simp)).drew
  have K0 := KR.out R0.drew _ _ hR0.drew BR0.drew
  have K1 := KR.out _ _ _ hR1 BR1
  go_wp2_with fail
  go_region_held3 (fun w' => (((w'.cell? ⟨ga, 0, none⟩ = some (.int .i64 W) ∧ w'.cell? ⟨ga, 1, none⟩ = some (.int .i64 H) ∧ w'.cell? ⟨ga, 2, none⟩ = some (.string s)) ∧ (w'.cell? ⟨ga + 1, 0, none⟩ = some (.int .i64 W) ∧ w'.cell? ⟨ga + 1, 1, none⟩ = some (.int .i64 H) ∧ w'.cell? ⟨ga + 1, 2, none⟩ = some (.string u)) ∧ (w'.cell? ⟨gp, 0, none⟩ = some (.int .i64 p0) ∧ w'.cell? ⟨gp, 1, none⟩ = some (.int .i64 p1) ∧ w'.cell? ⟨gp, 2, none⟩ = some (.int .i64 p2) ∧ w'.cell? ⟨gp, 3, none⟩ = some (.int .i64 p3) ∧ w'.cell? ⟨gp, 4, none⟩ = some (.int .i64 p4) ∧ w'.cell? ⟨gp, 5, none⟩ = some (.int .i64 p5))) ∧ w'.cell? ⟨gr, 0, none⟩ = some (.int .i64 l) ∧ w'.cell? ⟨gr, 1, none⟩ = some (.int .i64 t)))
    (first | with_reducible exact K0 | with_reducible exact K1)
    (fail)
  clear K0 K1 a0 a1 a2 b0 b1 b2 d0 d1 d2 d3 d4 d5 r0 r1 r2 fr2 hR0 BR0
  generalize (R0.setCell ⟨gr, 2, none⟩ (.int .i64 aa)).drew = R1 at *
  obtain ⟨⟨a0, a1, a2⟩, ⟨b0, b1, b2⟩, d0, d1, d2, d3, d4, d5⟩ := DR.out R1 hR1
  have r0 := BR1.cell 0
  have r1 := BR1.cell 1
  have r2 := BR1.cell 2
  have r3 := BR1.cell 3
  have fr3 := BR1.frozen 3
  simp only [List.getElem?_toArray, List.getElem?_cons_zero, List.getElem?_cons_succ] at r0 r1 r2 r3
  have hR2 : Below gr w2 (R1.setCell ⟨gr, 3, none⟩ (.int .i64 bb)).drew := (hR1.setCell (p := ⟨gr, 3, none⟩) (Nat.le_refl _) _).drew
  have BR2 : Blk (R1.setCell ⟨gr, 3, none⟩ (.int .i64 bb)).drew gr #[.int .i64 l, .int .i64 t, .int .i64 aa, .int .i64 bb] 31 := (BR1.set 3 (.int .i64 bb) (by simp)).drew
  have K0 := KR.out R1.drew _ _ hR1.drew BR1.drew
  have K1 := KR.out _ _ _ hR2 BR2
  go_wp2_with fail
  go_region_held3 (fun w' => (((w'.cell? ⟨ga, 0, none⟩ = some (.int .i64 W) ∧ w'.cell? ⟨ga, 1, none⟩ = some (.int .i64 H) ∧ w'.cell? ⟨ga, 2, none⟩ = some (.string s)) ∧ (w'.cell? ⟨ga + 1, 0, none⟩ = some (.int .i64 W) ∧ w'.cell? ⟨ga + 1, 1, none⟩ = some (.int .i64 H) ∧ w'.cell? ⟨ga + 1, 2, none⟩ = some (.string u)) ∧ (w'.cell? ⟨gp, 0, none⟩ = some (.int .i64 p0) ∧ w'.cell? ⟨gp, 1, none⟩ = some (.int .i64 p1) ∧ w'.cell? ⟨gp, 2, none⟩ = some (.int .i64 p2) ∧ w'.cell? ⟨gp, 3, none⟩ = some (.int .i64 p3) ∧ w'.cell? ⟨gp, 4, none⟩ = some (.int .i64 p4) ∧ w'.cell? ⟨gp, 5, none⟩ = some (.int .i64 p5))) ∧ w'.cell? ⟨gr, 0, none⟩ = some (.int .i64 l) ∧ w'.cell? ⟨gr, 1, none⟩ = some (.int .i64 t)))
    (first | with_reducible exact K0 | with_reducible exact K1)
    (fail)
  clear K0 K1 a0 a1 a2 b0 b1 b2 d0 d1 d2 d3 d4 d5 r0 r1 r2 r3 fr3 hR1 BR1 KR g1 g2 g3 g4 nwl nhl hq2 hq3
  generalize (R1.setCell ⟨gr, 3, none⟩ (.int .i64 bb)).drew = X2 at *
  have BK : Hid (∀ w', Below X2.heap.size X2 w' → CutsIn w' ga (ga + 1) gp W H s u p0 p1 p2 p3 p4 p5 ∧ (w'.cell? ⟨gr, 0, none⟩ = some (.int .i64 l) ∧ w'.cell? ⟨gr, 1, none⟩ = some (.int .i64 t) ∧ w'.cell? ⟨gr, 2, none⟩ = some (.int .i64 aa) ∧ w'.cell? ⟨gr, 3, none⟩ = some (.int .i64 bb))) := fun w' h => ⟨DR.out w' (hR2.trans (h.mono (by have := BR2.lt; omega))), (BR2.below h BR2.lt).four.1⟩
  have hX2 : Below w.heap.size w X2 := by
    have h := hR2
    rw [HB2.out] at h
    exact hwb.out.trans (h.mono hwb.out.size)
  have e0 : gr < X2.heap.size := BR2.lt
  have e1 : ga + 1 < X2.heap.size := by omega
  have e2 : gp < X2.heap.size := by omega
  clear hR2 BR2 DR hwb HB2
  -- what the calls answer
  have hsz : (s.size : Int) = W * H := (picB_iff.1 HS.out.1).2.2
  have huz : (u.size : Int) = W * H := (picB_iff.1 HS.out.2).2.2
  have hin : inRB W H l t aa bb = true := inRB_iff.2 ⟨⟨l0.1, aab.1, aab.2⟩, t0.1, bbb.1, bbb.2⟩
  have hcz := cropS_size hin huz hW1.1 bb.toNat (by omega)
  have hcp := crop_paste hin hsz huz hW1.1
  have hds : (pasteS W l t aa bb s (cropS W u l t aa bb.toNat)).size = s.size := paste_size
  have hdt := fun (x y : Int) (hx : 0 ≤ x ∧ x < W) (hy : 0 ≤ y ∧ y < H) => paste_dot hin hsz huz hW1.1 hx hy
  have hone : ∀ j, j < s.size → bAt (pasteS W l t aa bb s (cropS W u l t aa bb.toNat)) j = bAt s j ∨ bAt (pasteS W l t aa bb s (cropS W u l t aa bb.toNat)) j = bAt u j := fun j hj => by
    rw [paste_at _ hj]
    exact paste_one hin huz hW1.1 bb.toNat (by omega) j bb.toNat (Nat.le_refl _)
  have hcok : picB aa bb (cropS W u l t aa bb.toNat) = true := by
    refine picB_iff.2 ⟨by omega, by omega, ?_⟩
    rw [hcz, Int.natCast_mul, Int.mul_comm]
    congr 1 <;> omega
  have hdok : picB W H (pasteS W l t aa bb s (cropS W u l t aa bb.toNat)) = true := by
    refine picB_iff.2 ⟨by omega, by omega, ?_⟩
    rw [hds]
    exact hsz
  have hpV : pasteV W H s aa bb (cropS W u l t aa bb.toNat) l t = .tuple #[picV W H (pasteS W l t aa bb s (cropS W u l t aa bb.toNat)), .bool true] := by
    unfold pasteV pasteB
    rw [HS.out.1, hcok, hin]
    rfl
  have hcV : cropV W H u l t aa bb = .tuple #[picV aa bb (cropS W u l t aa bb.toNat), .bool true] := by
    unfold cropV
    rw [HS.out.2, hin]
    rfl
  have heV : cropV W H (pasteS W l t aa bb s (cropS W u l t aa bb.toNat)) l t aa bb = .tuple #[picV aa bb (cropS W u l t aa bb.toNat), .bool true] := by
    unfold cropV
    rw [hdok, hin, hcp]
    rfl
  have ss : s.size ≤ 1048576 := by have := sides_mul (picB_iff.1 HS.out.1).1 (picB_iff.1 HS.out.1).2.1; omega
  have CC1 : Hid (∀ w', Calls Try.prog 15 #[picV W H u, rectW l t aa bb] w' (fun e w'' => e = .returned (.tuple #[picV aa bb (cropS W u l t aa bb.toNat), .bool true]) ∧ Below w'.heap.size w' w'')) := fun w' => by rw [← hcV]; exact implCutOf W H u l t aa bb w' ⟨by omega, by omega⟩ ⟨by omega, by omega⟩
  have CP : Hid (∀ w', Calls Try.prog 16 #[picV W H s, picV aa bb (cropS W u l t aa bb.toNat), .int .i64 l, .int .i64 t] w' (fun e w'' => e = .returned (.tuple #[picV W H (pasteS W l t aa bb s (cropS W u l t aa bb.toNat)), .bool true]) ∧ Below w'.heap.size w' w'')) := fun w' => by rw [← hpV]; exact implPasted W H s aa bb (cropS W u l t aa bb.toNat) l t w' ss
  have CC2 : Hid (∀ w', Calls Try.prog 15 #[picV W H (pasteS W l t aa bb s (cropS W u l t aa bb.toNat)), rectW l t aa bb] w' (fun e w'' => e = .returned (.tuple #[picV aa bb (cropS W u l t aa bb.toNat), .bool true]) ∧ Below w'.heap.size w' w'')) := fun w' => by rw [← heV]; exact implCutOf W H _ l t aa bb w' ⟨by omega, by omega⟩ ⟨by omega, by omega⟩
  generalize cropS W u l t aa bb.toNat = C at *
  generalize pasteS W l t aa bb s C = D at *
  clear hcz hcp hcok hpV hcV heV hin ss
  have hA : ∀ (x y : ByteArray), picB W H x = true → picB W H y = true → apartF W H x W H y = apartN x y x.size := fun x y hx hy => by
    unfold apartF apartB
    rw [hx, hy]
    simp
  have hle : apartN D u s.size ≤ apartN s u s.size := apart_le D s u s.size hone
  have hab := hA s u HS.out.1 HS.out.2
  have hba := hA u s HS.out.2 HS.out.1
  have hdb := hA D u hdok HS.out.2
  have haa := hA s s HS.out.1 HS.out.1
  rw [show u.size = s.size by omega, apart_comm u s] at hba
  rw [hds] at hdb
  rw [apart_self] at haa
  have hzero : apartN s u s.size = 0 ↔ s = u := ⟨fun h => bAt_ext (by omega) (apart_zero s u s.size h), fun h => by rw [← h]; exact apart_self s _⟩
  have hab0 := (apartN_in s u s.size).1
  have CAB : Hid (∀ w', Calls Try.prog 18 #[picV W H s, picV W H u] w' (fun e w'' => e = .returned (.int .i64 (apartN s u s.size)) ∧ Below w'.heap.size w' w'')) := fun w' => by rw [← hab]; exact implApart W H s W H u w'
  have CBA : Hid (∀ w', Calls Try.prog 18 #[picV W H u, picV W H s] w' (fun e w'' => e = .returned (.int .i64 (apartN s u s.size)) ∧ Below w'.heap.size w' w'')) := fun w' => by rw [← hba]; exact implApart W H u W H s w'
  have CDB : Hid (∀ w', Calls Try.prog 18 #[picV W H D, picV W H u] w' (fun e w'' => e = .returned (.int .i64 (apartN D u s.size)) ∧ Below w'.heap.size w' w'')) := fun w' => by rw [← hdb]; exact implApart W H D W H u w'
  have CAA : Hid (∀ w', Calls Try.prog 18 #[picV W H s, picV W H s] w' (fun e w'' => e = .returned (.int .i64 0) ∧ Below w'.heap.size w' w'')) := fun w' => by rw [← haa]; exact implApart W H s W H s w'
  have HZ : Hid (apartN s u s.size = 0 ↔ s = u) := hzero
  have CDT : Hid (∀ (x y : Int), 0 ≤ x ∧ x < W → 0 ≤ y ∧ y < H → ∀ w', Calls Try.prog 17 #[picV W H D, .int .i64 x, .int .i64 y] w' (fun e w'' => e = .returned (.int .i64 (if ((l ≤ x ∧ x < l + aa) ∧ t ≤ y ∧ y < t + bb) then bAt u (y * W + x).toNat else bAt s (y * W + x).toNat)) ∧ Below w'.heap.size w' w'')) := fun x y hx hy w' => by
    have h1 := implDotAt W H D x y w'
    unfold dotO dotF placeF at h1
    rw [if_pos hdok, brF_id (n := y) ⟨hy.1, by omega⟩, brF_id (n := x) ⟨hx.1, by omega⟩, hdt x y hx hy] at h1
    exact h1
  clear hA hab hba hdb haa hzero hone hdt hdok hds
  generalize apartN s u s.size = AB at *
  generalize apartN D u s.size = DB at *
  have HX1 : Below X2.heap.size X2 X2 := Below.refl _ _
  obtain ⟨⟨⟨a0, a1, a2⟩, ⟨b0, b1, b2⟩, d0, d1, d2, d3, d4, d5⟩, r0, r1, r2, r3⟩ := BK.out X2 HX1
  have HSZ : Hid ((s.size : Int) = W * H ∧ (u.size : Int) = W * H) := ⟨hsz, huz⟩
  clear hsz huz
  go_wp2_with fail
  refine (CC1.out X2).mono ?_
  rintro e w3 ⟨rfl, hc3⟩
  have BK3 : Hid (∀ w', Below (w3.alloc (.cells #[.int .i64 aa, .int .i64 bb, .string C] 25)).heap.size (w3.alloc (.cells #[.int .i64 aa, .int .i64 bb, .string C] 25)) w' → (CutsIn w' ga (ga + 1) gp W H s u p0 p1 p2 p3 p4 p5 ∧ (w'.cell? ⟨gr, 0, none⟩ = some (.int .i64 l) ∧ w'.cell? ⟨gr, 1, none⟩ = some (.int .i64 t) ∧ w'.cell? ⟨gr, 2, none⟩ = some (.int .i64 aa) ∧ w'.cell? ⟨gr, 3, none⟩ = some (.int .i64 bb))) ∧ (w'.cell? ⟨w3.heap.size, 0, none⟩ = some (.int .i64 aa) ∧ w'.cell? ⟨w3.heap.size, 1, none⟩ = some (.int .i64 bb) ∧ w'.cell? ⟨w3.heap.size, 2, none⟩ = some (.string C))) := fun w' h => ⟨BK.out w' ((hc3.alloc hc3.size _).trans (h.mono (by have := hc3.size; simp; omega))), ((Blk.new w3 #[.int .i64 aa, .int .i64 bb, .string C] 25).below h (by simp)).three.1⟩
  have hY3 := hX2.trans ((hc3.alloc hc3.size (.cells #[.int .i64 aa, .int .i64 bb, .string C] 25)).mono hX2.size)
  have i0 : gr < w3.heap.size := by have := hc3.size; omega
  have i1 : ga + 1 < w3.heap.size := by have := hc3.size; omega
  have i2 : gp < w3.heap.size := by have := hc3.size; omega
  have i3 : ga < w3.heap.size := by omega
  have K3 := BK.out w3 hc3
  clear a0 a1 a2 b0 b1 b2 d0 d1 d2 d3 d4 d5 r0 r1 r2 r3
  obtain ⟨⟨⟨a0, a1, a2⟩, ⟨b0, b1, b2⟩, d0, d1, d2, d3, d4, d5⟩, r0, r1, r2, r3⟩ := K3
  go_wp2_with fail
  have k0 : gr < (w3.alloc (.cells #[.int .i64 aa, .int .i64 bb, .string C] 25)).heap.size := by simp; omega
  have k1 : w3.heap.size < (w3.alloc (.cells #[.int .i64 aa, .int .i64 bb, .string C] 25)).heap.size := by simp
  have j0 : gr < w3.heap.size := i0
  clear a0 a1 a2 b0 b1 b2 d0 d1 d2 d3 d4 d5 r0 r1 r2 r3 i0 i1 i2 i3 hc3 BK CC1 hX2 HX1
  generalize w3.alloc (.cells #[.int .i64 aa, .int .i64 bb, .string C] 25) = Y3 at *
  generalize w3.heap.size = gc at *
  refine (CP.out Y3).mono ?_
  rintro e w4 ⟨rfl, hc4⟩
  have hl4 := hc4.size
  have BK4 : Hid (∀ w', Below (w4.alloc (.cells #[.int .i64 W, .int .i64 H, .string D] 25)).heap.size (w4.alloc (.cells #[.int .i64 W, .int .i64 H, .string D] 25)) w' → ((CutsIn w' ga (ga + 1) gp W H s u p0 p1 p2 p3 p4 p5 ∧ (w'.cell? ⟨gr, 0, none⟩ = some (.int .i64 l) ∧ w'.cell? ⟨gr, 1, none⟩ = some (.int .i64 t) ∧ w'.cell? ⟨gr, 2, none⟩ = some (.int .i64 aa) ∧ w'.cell? ⟨gr, 3, none⟩ = some (.int .i64 bb))) ∧ (w'.cell? ⟨gc, 0, none⟩ = some (.int .i64 aa) ∧ w'.cell? ⟨gc, 1, none⟩ = some (.int .i64 bb) ∧ w'.cell? ⟨gc, 2, none⟩ = some (.string C))) ∧ (w'.cell? ⟨w4.heap.size, 0, none⟩ = some (.int .i64 W) ∧ w'.cell? ⟨w4.heap.size, 1, none⟩ = some (.int .i64 H) ∧ w'.cell? ⟨w4.heap.size, 2, none⟩ = some (.string D))) := fun w' h => ⟨BK3.out w' ((hc4.alloc hc4.size _).trans (h.mono (by simp; omega))), ((Blk.new w4 #[.int .i64 W, .int .i64 H, .string D] 25).below h (by simp)).three.1⟩
  have hY4 := hY3.trans ((hc4.alloc hc4.size (.cells #[.int .i64 W, .int .i64 H, .string D] 25)).mono hY3.size)
  have i0 : gr < w4.heap.size := by omega
  have i1 : ga + 1 < w4.heap.size := by omega
  have i2 : gp < w4.heap.size := by omega
  have i3 : ga < w4.heap.size := by omega
  have i4 : gc < w4.heap.size := by omega
  obtain ⟨⟨⟨⟨a0, a1, a2⟩, ⟨b0, b1, b2⟩, d0, d1, d2, d3, d4, d5⟩, r0, r1, r2, r3⟩, c0, c1, c2⟩ := BK3.out w4 hc4
  go_wp2_with fail
  have k0 : gr < (w4.alloc (.cells #[.int .i64 W, .int .i64 H, .string D] 25)).heap.size := by simp; omega
  have k1' : w4.heap.size < (w4.alloc (.cells #[.int .i64 W, .int .i64 H, .string D] 25)).heap.size := by simp
  clear a0 a1 a2 b0 b1 b2 d0 d1 d2 d3 d4 d5 r0 r1 r2 r3 c0 c1 c2 i1 i2 i3 hc4 BK3 CP hY3 hl4 k1
  generalize w4.alloc (.cells #[.int .i64 W, .int .i64 H, .string D] 25) = Y4 at *
  generalize w4.heap.size = gd at *
  refine (CC2.out Y4).mono ?_
  rintro e w5 ⟨rfl, hc5⟩
  have hl5 := hc5.size
  have BK5 : Hid (∀ w', Below (w5.alloc (.cells #[.int .i64 aa, .int .i64 bb, .string C] 25)).heap.size (w5.alloc (.cells #[.int .i64 aa, .int .i64 bb, .string C] 25)) w' → (((CutsIn w' ga (ga + 1) gp W H s u p0 p1 p2 p3 p4 p5 ∧ (w'.cell? ⟨gr, 0, none⟩ = some (.int .i64 l) ∧ w'.cell? ⟨gr, 1, none⟩ = some (.int .i64 t) ∧ w'.cell? ⟨gr, 2, none⟩ = some (.int .i64 aa) ∧ w'.cell? ⟨gr, 3, none⟩ = some (.int .i64 bb))) ∧ (w'.cell? ⟨gc, 0, none⟩ = some (.int .i64 aa) ∧ w'.cell? ⟨gc, 1, none⟩ = some (.int .i64 bb) ∧ w'.cell? ⟨gc, 2, none⟩ = some (.string C))) ∧ (w'.cell? ⟨gd, 0, none⟩ = some (.int .i64 W) ∧ w'.cell? ⟨gd, 1, none⟩ = some (.int .i64 H) ∧ w'.cell? ⟨gd, 2, none⟩ = some (.string D))) ∧ (w'.cell? ⟨w5.heap.size, 0, none⟩ = some (.int .i64 aa) ∧ w'.cell? ⟨w5.heap.size, 1, none⟩ = some (.int .i64 bb) ∧ w'.cell? ⟨w5.heap.size, 2, none⟩ = some (.string C))) := fun w' h => ⟨BK4.out w' ((hc5.alloc hc5.size _).trans (h.mono (by simp; omega))), ((Blk.new w5 #[.int .i64 aa, .int .i64 bb, .string C] 25).below h (by simp)).three.1⟩
  have hY5 := hY4.trans ((hc5.alloc hc5.size (.cells #[.int .i64 aa, .int .i64 bb, .string C] 25)).mono hY4.size)
  have m0 : gr < w5.heap.size := by omega
  have m1 : ga + 1 < w5.heap.size := by omega
  have m2 : gp < w5.heap.size := by omega
  have m3 : ga < w5.heap.size := by omega
  have m4 : gc < w5.heap.size := by omega
  have m5 : gd < w5.heap.size := by omega
  have KK := (BK4.out w5 hc5)
  obtain ⟨⟨⟨⟨⟨a0, a1, a2⟩, ⟨b0, b1, b2⟩, d0, d1, d2, d3, d4, d5⟩, r0, r1, r2, r3⟩, c0, c1, c2⟩, e0, e1, e2⟩ := KK
  go_wp2_with fail
  have f0 : gr < (w5.alloc (.cells #[.int .i64 aa, .int .i64 bb, .string C] 25)).heap.size := by simp; omega
  have f1 : w5.heap.size < (w5.alloc (.cells #[.int .i64 aa, .int .i64 bb, .string C] 25)).heap.size := by simp
  clear a0 a1 a2 b0 b1 b2 d0 d1 d2 d3 d4 d5 r0 r1 r2 r3 c0 c1 c2 e0 e1 e2 m0 m1 m2 m3 m4 m5 hc5 BK4 CC2 hY4 hl5 i0 i4 k0 k1' j0
  generalize w5.alloc (.cells #[.int .i64 aa, .int .i64 bb, .string C] 25) = Y5 at *
  generalize w5.heap.size = ge at *
  obtain ⟨x, hx⟩ : ∃ x, Int.tmod p4 W = x := ⟨_, rfl⟩
  obtain ⟨y, hy⟩ : ∃ y, Int.tmod p5 H = y := ⟨_, rfl⟩
  have xb : 0 ≤ x ∧ x < W := by rw [← hx, Int.tmod_eq_emod_of_nonneg n4.1]; exact ⟨Int.emod_nonneg _ nW, Int.emod_lt_of_pos _ (by omega)⟩
  have yb : 0 ≤ y ∧ y < H := by rw [← hy, Int.tmod_eq_emod_of_nonneg n5.1]; exact ⟨Int.emod_nonneg _ nH, Int.emod_lt_of_pos _ (by omega)⟩
  obtain ⟨⟨⟨⟨⟨⟨a0, a1, a2⟩, ⟨b0, b1, b2⟩, d0, d1, d2, d3, d4, d5⟩, r0, r1, r2, r3⟩, c0, c1, c2⟩, q0, q1', q2'⟩, o0, o1, o2⟩ := BK5.out Y5 (Below.refl _ _)
  have K0 := BK5.out Y5.drew (Below.refl Y5.heap.size Y5).drew
  go_wp2_with fail
  go_quiet (fail)
  go_wp2_with fail
  go_quiet (fail)
  go_upto_region 13 with fail
  generalize hZ : World.drewN (World.drewN Y5 _) _ = Z0
  have hZ0 : Below Y5.heap.size Y5 Z0 := by rw [← hZ]; exact below_drewN (below_drewN (Below.refl _ _) _) _
  clear hZ K0 a0 a1 a2 b0 b1 b2 d0 d1 d2 d3 d4 d5 r0 r1 r2 r3 c0 c1 c2 q0 q1' q2' o0 o1 o2 hx hy nW nH
  have BK6 : Hid (∀ w', Below Z0.heap.size Z0 w' → CutsAll w' ga (ga + 1) gp gr gc gd ge W H s u C D p0 p1 p2 p3 p4 p5 l t aa bb) := fun w' h => BK5.out w' (hZ0.trans (h.mono hZ0.size))
  have f2 : gr < Z0.heap.size := by have := hZ0.size; omega
  have f3 : ge < Z0.heap.size := by have := hZ0.size; omega
  have hb5 := hY5.trans (hZ0.mono hY5.size)
  clear BK5 hZ0 hY5 f0 f1
  obtain ⟨⟨⟨⟨⟨⟨a0, a1, a2⟩, ⟨b0, b1, b2⟩, d0, d1, d2, d3, d4, d5⟩, r0, r1, r2, r3⟩, c0, c1, c2⟩, q0, q1', q2'⟩, o0, o1, o2⟩ := BK6.out Z0 (Below.refl _ _)
  obtain ⟨IN, hIN⟩ : ∃ IN : Bool, IN = decide ((l ≤ x ∧ x < l + aa) ∧ t ≤ y ∧ y < t + bb) := ⟨_, rfl⟩
  have HIN : Hid (IN = decide ((l ≤ x ∧ x < l + aa) ∧ t ≤ y ∧ y < t + bb)) := hIN
  clear hIN
  go_cut [15] from 95 to 122 (fun p1 wc => p1 = .bool IN ∧ wc = Z0)
  case first =>
    by_cases k1 : l ≤ x
    · by_cases k2 : x < l + aa
      · by_cases k3 : t ≤ y
        · by_cases k4 : y < t + bb
          · go_wp2_with fail
            go_meet
            exact ⟨by rw [HIN.out]; congr 1; simp; omega, rfl⟩
          · go_wp2_with fail
            go_meet
            exact ⟨by rw [HIN.out]; congr 1; simp; omega, rfl⟩
        · go_wp2_with fail
          go_meet
          exact ⟨by rw [HIN.out]; congr 1; simp; omega, rfl⟩
      · go_wp2_with fail
        go_meet
        exact ⟨by rw [HIN.out]; congr 1; simp; omega, rfl⟩
    · go_wp2_with fail
      go_meet
      exact ⟨by rw [HIN.out]; congr 1; simp; omega, rfl⟩
  case rest =>
  revert hcut
  generalize wc = wx
  rintro ⟨rfl, hwx⟩
  subst hwx
  obtain ⟨z, hz⟩ : ∃ z, y * W = z := ⟨_, rfl⟩
  have zb : 0 ≤ z ∧ z + W ≤ W * H := by
    rw [← hz]
    have g1 : (y + 1) * W ≤ H * W := Int.mul_le_mul_of_nonneg_right (by omega) (by omega)
    rw [Int.add_mul, Int.one_mul, Int.mul_comm H W] at g1
    exact ⟨Int.mul_nonneg yb.1 (by omega), g1⟩
  obtain ⟨J, hJ⟩ : ∃ J : Nat, z + x = (J : Int) := ⟨(z + x).toNat, by omega⟩
  have hWH := sides_mul (W := W) (H := H) (by omega) (by omega)
  have jb : (J : Int) < W * H := by omega
  have js : J < s.size := by have := HSZ.out.1; omega
  have ju : J < u.size := by have := HSZ.out.2; omega
  have js' : (J : Int) < (s.size : Int) := by omega
  have ju' : (J : Int) < (u.size : Int) := by omega
  have hvs := bAt_eq s J js
  have hvu := bAt_eq u J ju
  have vsb := bAt_in s J
  have vub := bAt_in u J
  have zb2 : 0 ≤ z ∧ z ≤ 65536 := by omega
  have hzb : 0 ≤ y * W ∧ y * W ≤ 65536 := by rw [hz]; exact zb2
  have CD2 : Hid (∀ w', Calls Try.prog 17 #[picV W H D, .int .i64 x, .int .i64 y] w' (fun e w'' => e = .returned (.int .i64 (if IN then bAt u J else bAt s J)) ∧ Below w'.heap.size w' w'')) := fun w' => by
    have h1 := CDT.out x y xb yb w'
    rw [hz, hJ] at h1
    have e1 : (if ((l ≤ x ∧ x < l + aa) ∧ t ≤ y ∧ y < t + bb) then bAt u ((J : Int)).toNat else bAt s ((J : Int)).toNat) = (if IN then bAt u J else bAt s J) := by
      rw [HIN.out]
      simp
    rw [e1] at h1
    exact h1
  clear CDT zb hWH jb
  generalize bAt s J = vs at *
  generalize bAt u J = vu at *
  go_upto_if 133 with fail
  go_cut [16] from 134 to 143 (fun p1 wc => p1 = .int .i64 (if IN then vu else vs) ∧ Below wx.heap.size wx wc)
  case first =>
    cases hi : IN
    · subst hi
      go_wp2_with fail
      go_meet
      first | exact ⟨rfl, Below.refl _ _⟩ | exact ⟨rfl, (Below.refl _ _).drew⟩ | exact ⟨rfl, (Below.refl _ _).drew.drew⟩
    · subst hi
      go_wp2_with fail
      go_meet
      first | exact ⟨rfl, Below.refl _ _⟩ | exact ⟨rfl, (Below.refl _ _).drew⟩ | exact ⟨rfl, (Below.refl _ _).drew.drew⟩
  case rest =>
  revert hcut
  generalize wc = wz
  rintro ⟨rfl, hbz⟩
  generalize (if IN = true then vu else vs) = V at *
  have hb6 := hb5.trans (hbz.mono hb5.size)
  have BK7 : Hid (∀ w', Below wz.heap.size wz w' → CutsAll w' ga (ga + 1) gp gr gc gd ge W H s u C D p0 p1 p2 p3 p4 p5 l t aa bb) := fun w' h => BK6.out w' (hbz.trans (h.mono hbz.size))
  clear a0 a1 a2 b0 b1 b2 d0 d1 d2 d3 d4 d5 r0 r1 r2 r3 c0 c1 c2 q0 q1' q2' o0 o1 o2 BK6 hbz hb5 hzb zb2 hz hvs hvu vsb vub js ju js' ju' hJ HIN f2 f3
  have AK : Hid (∀ w', Below wz.heap.size wz w' → (w'.cell? ⟨ga, 0, none⟩ = some (.int .i64 W) ∧ w'.cell? ⟨ga, 1, none⟩ = some (.int .i64 H) ∧ w'.cell? ⟨ga, 2, none⟩ = some (.string s)) ∧ (w'.cell? ⟨ga + 1, 0, none⟩ = some (.int .i64 W) ∧ w'.cell? ⟨ga + 1, 1, none⟩ = some (.int .i64 H) ∧ w'.cell? ⟨ga + 1, 2, none⟩ = some (.string u)) ∧ (w'.cell? ⟨gc, 0, none⟩ = some (.int .i64 aa) ∧ w'.cell? ⟨gc, 1, none⟩ = some (.int .i64 bb) ∧ w'.cell? ⟨gc, 2, none⟩ = some (.string C)) ∧ (w'.cell? ⟨gd, 0, none⟩ = some (.int .i64 W) ∧ w'.cell? ⟨gd, 1, none⟩ = some (.int .i64 H) ∧ w'.cell? ⟨gd, 2, none⟩ = some (.string D)) ∧ (w'.cell? ⟨ge, 0, none⟩ = some (.int .i64 aa) ∧ w'.cell? ⟨ge, 1, none⟩ = some (.int .i64 bb) ∧ w'.cell? ⟨ge, 2, none⟩ = some (.string C))) := fun w' h => by
    obtain ⟨⟨⟨⟨⟨ka, kb, -⟩, -⟩, kc⟩, kd⟩, ke⟩ := BK7.out w' h
    exact ⟨ka, kb, kc, kd, ke⟩
  obtain ⟨⟨a0, a1, a2⟩, ⟨b0, b1, b2⟩, ⟨c0, c1, c2⟩, ⟨q0, q1', q2'⟩, o0, o1, o2⟩ := AK.out wz (Below.refl _ _)
  have K0 := AK.out wz.drew (Below.refl _ _).drew
  clear BK7
  go_wp2_with fail
  by_cases hsu : s = u
  · have zAB : AB = 0 := HZ.out.2 hsu
    subst hsu
    subst zAB
    go_region_held3 (fun w' => (w'.cell? ⟨ga, 0, none⟩ = some (.int .i64 W) ∧ w'.cell? ⟨ga, 1, none⟩ = some (.int .i64 H) ∧ w'.cell? ⟨ga, 2, none⟩ = some (.string s)) ∧ (w'.cell? ⟨ga + 1, 0, none⟩ = some (.int .i64 W) ∧ w'.cell? ⟨ga + 1, 1, none⟩ = some (.int .i64 H) ∧ w'.cell? ⟨ga + 1, 2, none⟩ = some (.string s)) ∧ (w'.cell? ⟨gc, 0, none⟩ = some (.int .i64 aa) ∧ w'.cell? ⟨gc, 1, none⟩ = some (.int .i64 bb) ∧ w'.cell? ⟨gc, 2, none⟩ = some (.string C)) ∧ (w'.cell? ⟨gd, 0, none⟩ = some (.int .i64 W) ∧ w'.cell? ⟨gd, 1, none⟩ = some (.int .i64 H) ∧ w'.cell? ⟨gd, 2, none⟩ = some (.string D)) ∧ (w'.cell? ⟨ge, 0, none⟩ = some (.int .i64 aa) ∧ w'.cell? ⟨ge, 1, none⟩ = some (.int .i64 bb) ∧ w'.cell? ⟨ge, 2, none⟩ = some (.string C)))
      (first | with_reducible exact K0 | with_reducible exact AK.out _ hc7 | with_reducible exact AK.out _ hc6 | with_reducible exact AK.out _ hc5 | with_reducible exact AK.out _ hc4 | with_reducible exact AK.out _ hc3 | with_reducible exact AK.out _ hc2 | with_reducible exact AK.out _ hc1)
      (first
        | (have hx := hc6; go_at_call 18; refine (CAA.out _).mono ?_; rintro e w16 ⟨rfl, hr⟩; have hc7 : Below wz.heap.size wz w16 := hc6.trans (hr.mono hc6.size); clear hr)
        | (have hx := hc5; go_at_call 18; refine (CDB.out _).mono ?_; rintro e w15 ⟨rfl, hr⟩; have hc6 : Below wz.heap.size wz w15 := hc5.trans (hr.mono hc5.size); clear hr)
        | (have hx := hc4; go_at_call 18; refine (CAB.out _).mono ?_; rintro e w14 ⟨rfl, hr⟩; have hc5 : Below wz.heap.size wz w14 := hc4.trans (hr.mono hc4.size); clear hr)
        | (have hx := hc3; go_at_call 18; refine (CAB.out _).mono ?_; rintro e w13 ⟨rfl, hr⟩; have hc4 : Below wz.heap.size wz w13 := hc3.trans (hr.mono hc3.size); clear hr)
        | (have hx := hc2; go_at_call 18; refine (CBA.out _).mono ?_; rintro e w12 ⟨rfl, hr⟩; have hc3 : Below wz.heap.size wz w12 := hc2.trans (hr.mono hc2.size); clear hr)
        | (have hx := hc1; go_at_call 18; refine (CAB.out _).mono ?_; rintro e w11 ⟨rfl, hr⟩; have hc2 : Below wz.heap.size wz w11 := hc1.trans (hr.mono hc1.size); clear hr)
        | (go_at_call 17; refine (CD2.out _).mono ?_; rintro e w10 ⟨rfl, hr⟩; have hc1 : Below wz.heap.size wz w10 := (Below.refl wz.heap.size wz).drew.trans hr; clear hr))
    have hb8 := hb6.trans (hc7.mono hb6.size)
    clear AK K0 HZ CD2 CAB CBA CDB CAA hc1 hc2 hc3 hc4 hc5 hc6 hc7
    go_wp2
    go_ret
    exact ⟨rfl, hb8⟩
  · have zAB : ¬ AB = 0 := fun h => hsu (HZ.out.1 h)
    have zAB2 : (AB == 0) = false := by rw [beq_eq_false_iff_ne]; exact zAB
    have zs : ¬ s.toList = u.toList := fun h => hsu (textList_inj h)
    have zs2 : (s.toList == u.toList) = false := by rw [beq_eq_false_iff_ne]; exact zs
    go_region_held3 (fun w' => (w'.cell? ⟨ga, 0, none⟩ = some (.int .i64 W) ∧ w'.cell? ⟨ga, 1, none⟩ = some (.int .i64 H) ∧ w'.cell? ⟨ga, 2, none⟩ = some (.string s)) ∧ (w'.cell? ⟨ga + 1, 0, none⟩ = some (.int .i64 W) ∧ w'.cell? ⟨ga + 1, 1, none⟩ = some (.int .i64 H) ∧ w'.cell? ⟨ga + 1, 2, none⟩ = some (.string u)) ∧ (w'.cell? ⟨gc, 0, none⟩ = some (.int .i64 aa) ∧ w'.cell? ⟨gc, 1, none⟩ = some (.int .i64 bb) ∧ w'.cell? ⟨gc, 2, none⟩ = some (.string C)) ∧ (w'.cell? ⟨gd, 0, none⟩ = some (.int .i64 W) ∧ w'.cell? ⟨gd, 1, none⟩ = some (.int .i64 H) ∧ w'.cell? ⟨gd, 2, none⟩ = some (.string D)) ∧ (w'.cell? ⟨ge, 0, none⟩ = some (.int .i64 aa) ∧ w'.cell? ⟨ge, 1, none⟩ = some (.int .i64 bb) ∧ w'.cell? ⟨ge, 2, none⟩ = some (.string C)))
      (first | with_reducible exact K0 | with_reducible exact AK.out _ hc7 | with_reducible exact AK.out _ hc6 | with_reducible exact AK.out _ hc5 | with_reducible exact AK.out _ hc4 | with_reducible exact AK.out _ hc3 | with_reducible exact AK.out _ hc2 | with_reducible exact AK.out _ hc1)
      (first
        | (have hx := hc6; go_at_call 18; refine (CAA.out _).mono ?_; rintro e w16 ⟨rfl, hr⟩; have hc7 : Below wz.heap.size wz w16 := hc6.trans (hr.mono hc6.size); clear hr)
        | (have hx := hc5; go_at_call 18; refine (CDB.out _).mono ?_; rintro e w15 ⟨rfl, hr⟩; have hc6 : Below wz.heap.size wz w15 := hc5.trans (hr.mono hc5.size); clear hr)
        | (have hx := hc4; go_at_call 18; refine (CAB.out _).mono ?_; rintro e w14 ⟨rfl, hr⟩; have hc5 : Below wz.heap.size wz w14 := hc4.trans (hr.mono hc4.size); clear hr)
        | (have hx := hc3; go_at_call 18; refine (CAB.out _).mono ?_; rintro e w13 ⟨rfl, hr⟩; have hc4 : Below wz.heap.size wz w13 := hc3.trans (hr.mono hc3.size); clear hr)
        | (have hx := hc2; go_at_call 18; refine (CBA.out _).mono ?_; rintro e w12 ⟨rfl, hr⟩; have hc3 : Below wz.heap.size wz w12 := hc2.trans (hr.mono hc2.size); clear hr)
        | (have hx := hc1; go_at_call 18; refine (CAB.out _).mono ?_; rintro e w11 ⟨rfl, hr⟩; have hc2 : Below wz.heap.size wz w11 := hc1.trans (hr.mono hc1.size); clear hr)
        | (go_at_call 17; refine (CD2.out _).mono ?_; rintro e w10 ⟨rfl, hr⟩; have hc1 : Below wz.heap.size wz w10 := (Below.refl wz.heap.size wz).drew.trans hr; clear hr))
    have hb8 := hb6.trans (hc7.mono hb6.size)
    clear AK K0 HZ CD2 CAB CBA CDB CAA hc1 hc2 hc3 hc4 hc5 hc6 hc7
    go_wp2
    go_ret
    exact ⟨rfl, hb8⟩
end Go.Proofs.Ytpodpfdbklffgaa
