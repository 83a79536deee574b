/-
  The walks of TileRect, of both, and of spec.l06Before.
-/
import Derived.Test.YtigcoboaeibcjaaDoorGridGet
import Derived.Test.YtigcoboaeibcjaaDoorGridVal
import Derived.Deep.CutRange
namespace Go.Proofs.YtigcoboaeibcjaaDoor
open Go.RowKit
set_option linter.unusedVariables false
set_option maxRecDepth 20000

set_option maxHeartbeats 12800000 in
theorem implTileRect (l b : Int) (a1 a2 : Option Addr) (c1 c2 : Nat) (xs ys : List Int) (t : Int) (w : World) (h : SetIn w a1 a2 xs ys) :
    Calls Tryd.prog 20 #[.agg #[.int .i64 l, .int .i64 b, .slice a1 xs.length c1, .slice a2 ys.length c2], .int .i64 t] w fun e w' => e = .returned (.tuple #[rectV l b xs ys t, .bool (okT l b xs ys t)]) ∧ Below w.heap.size w w' := by
  have H : Hid (SetIn w a1 a2 xs ys) := h
  clear h
  by_cases t0 : t < 0
  · have HR : Hid (okT l b xs ys t = false) := by unfold okT; rw [show decide (0 ≤ t) = false by simp; omega]; rfl
    go_enter Tryd.func20, Tryd.ntmps20
    go_wp2_with fail
    have HZ : Hid (Blk ((w.alloc (.cells #[.int .i64 l, .int .i64 b, .slice a1 xs.length c1, .slice a2 ys.length c2] 26)).alloc (.cells #[.int .i64 0, .int .i64 0, .int .i64 0, .int .i64 0] 41)) (w.heap.size + 1) #[.int .i64 0, .int .i64 0, .int .i64 0, .int .i64 0] 41) := Blk.new' _ _ (by simp)
    refine bodyPost_ret (results_cell_one rfl _ _ (w.heap.size + 1) 41 _ (0, 0) _ rfl HZ.out Tryd.underlying41 rfl (by kernel_rfl)) rfl ?_
    exact ⟨by rw [rectV_no HR.out, HR.out]; rfl, by go_grown⟩
  go_enter Tryd.func20, Tryd.ntmps20
  go_wp2_with fail
  generalize hW : World.alloc (World.alloc w _) _ = W
  have hs : W.heap.size = w.heap.size + 2 := by rw [← hW]; simp
  have B0 : Blk W w.heap.size #[.int .i64 l, .int .i64 b, .slice a1 xs.length c1, .slice a2 ys.length c2] 26 := by rw [← hW]; exact (Blk.new w _ _).alloc _
  have hb0 : Below w.heap.size w W := by rw [← hW]; exact ((Below.refl _ _).alloc (Nat.le_refl _) _).alloc (by simp) _
  have R0 : Blk W (w.heap.size + 1) #[.int .i64 0, .int .i64 0, .int .i64 0, .int .i64 0] 41 := by rw [← hW]; exact Blk.new' _ _ (by simp)
  clear hW
  refine (implTilesOf _ _ _ _ _ _ _ _ W (H.out.below hb0 (Nat.le_refl _))).mono ?_
  rintro e w1 ⟨rfl, hc⟩
  have hb1 := hb0.trans (hc.mono hb0.size)
  have B1 := B0.below hc B0.lt
  have R1 := R0.below hc R0.lt
  obtain ⟨⟨x0, x1, x2, x3⟩, _⟩ := B1.four
  clear hc hb0 B0 R0 hs
  cases ho : okT l b xs ys t with
  | false =>
    have HR : Hid (okT l b xs ys t = false) := ho
    have tn : tilesI l b xs ys ≤ t := by
      unfold okT at ho
      rw [show decide (0 ≤ t) = true by simp; omega] at ho
      simp at ho; exact ho
    clear ho
    generalize tilesI l b xs ys = T at *
    obtain ⟨⟨r0, r1, r2, r3⟩, f0, f1, f2, f3⟩ := R1.four
    have HZ : Hid (Blk ((((w1.setCell ⟨w.heap.size + 1, 0, none⟩ (.int .i64 0)).setCell ⟨w.heap.size + 1, 1, none⟩ (.int .i64 0)).setCell ⟨w.heap.size + 1, 2, none⟩ (.int .i64 0)).setCell ⟨w.heap.size + 1, 3, none⟩ (.int .i64 0)) (w.heap.size + 1) #[.int .i64 0, .int .i64 0, .int .i64 0, .int .i64 0] 41) :=
      (((R1.set 0 _ (by simp)).set 1 _ (by simp)).set 2 _ (by simp)).set 3 _ (by simp)
    clear R1 B1
    go_wp2_with fail
    refine bodyPost_ret (results_cell_one rfl _ _ (w.heap.size + 1) 41 _ (0, 0) _ rfl HZ.out Tryd.underlying41 rfl (by kernel_rfl)) rfl ?_
    exact ⟨by rw [rectV_no HR.out, HR.out]; rfl, (((hb1.setCell (by simp) _).setCell (by simp) _).setCell (by simp) _).setCell (by simp) _⟩
  | true =>
    obtain ⟨hs, k, rfl, hk⟩ := okT_true ho
    have HO : Hid (okT l b xs ys (k : Int) = true) := ho
    obtain ⟨⟨gx, nx0, nx1⟩, ⟨gy, ny0, ny1⟩, _⟩ := seq_sides hs
    have HT : Hid (tilesI l b xs ys = (xs.length : Int) * (ys.length : Int)) := tilesI_yes hs
    have tn : (k : Int) < tilesI l b xs ys := by rw [HT.out]; have : (k : Int) < ((xs.length * ys.length : Nat) : Int) := by omega
                                                 rwa [Int.natCast_mul] at this
    generalize tilesI l b xs ys = T at *
    have hm : k % xs.length < xs.length := Nat.mod_lt _ (by omega)
    have hd : k / xs.length < ys.length := div_lt' hk
    have HC : Hid (∀ w', Below w.heap.size w w' → Calls Tryd.prog 46 #[.slice a1 xs.length c1] w' (fun e w'' => ∃ g cp, e = .returned (.slice (some ⟨g, 0, none⟩) xs.length cp) ∧ w'.heap.size ≤ g ∧ g < w''.heap.size ∧ (∀ v, Below w''.heap.size w'' v → v.cell? ⟨g, (k % xs.length) * 3, none⟩ = some (.int .i64 ((k % xs.length : Nat) : Int)) ∧ v.cell? ⟨g, (k % xs.length) * 3 + 1, none⟩ = some (.int .i64 (8 * sumT xs (k % xs.length))) ∧ v.cell? ⟨g, (k % xs.length) * 3 + 2, none⟩ = some (.int .i64 (8 * xs.getD (k % xs.length) 0))) ∧ Below w'.heap.size w' w'')) := fun w' hb => (stripsOf_any a1 c1 xs w' (H.out.below hb (Nat.le_refl _)).1.1 gx nx1).mono fun e w'' ⟨v, he, ho, hc⟩ => by
      obtain ⟨g, cp, rfl, h1, h2, h3⟩ := strip_at ho (by omega)
      exact ⟨g, cp, he, h1, h2, fun v hv => h3 v _ hv hm, hc⟩
    have HR : Hid (∀ w', Below w.heap.size w w' → Calls Tryd.prog 46 #[.slice a2 ys.length c2] w' (fun e w'' => ∃ g cp, e = .returned (.slice (some ⟨g, 0, none⟩) ys.length cp) ∧ w'.heap.size ≤ g ∧ g < w''.heap.size ∧ (∀ v, Below w''.heap.size w'' v → v.cell? ⟨g, (k / xs.length) * 3, none⟩ = some (.int .i64 ((k / xs.length : Nat) : Int)) ∧ v.cell? ⟨g, (k / xs.length) * 3 + 1, none⟩ = some (.int .i64 (8 * sumT ys (k / xs.length))) ∧ v.cell? ⟨g, (k / xs.length) * 3 + 2, none⟩ = some (.int .i64 (8 * ys.getD (k / xs.length) 0))) ∧ Below w'.heap.size w' w'')) := fun w' hb => (stripsOf_any a2 c2 ys w' (H.out.below hb (Nat.le_refl _)).1.2.1 gy ny1).mono fun e w'' ⟨v, he, ho, hc⟩ => by
      obtain ⟨g, cp, rfl, h1, h2, h3⟩ := strip_at ho (by omega)
      exact ⟨g, cp, he, h1, h2, fun v hv => h3 v _ hv hd, hc⟩
    have l0 : (1 : Int) ≤ (xs.length : Int) := by omega
    have l1 : (xs.length : Int) ≤ 4 := by omega
    have l2 : (1 : Int) ≤ (ys.length : Int) := by omega
    have l3 : (ys.length : Int) ≤ 4 := by omega
    have l4 : (0 : Int) ≤ (k : Int) := by omega
    have l5 : (k : Int) < 16 := by have := mul_le4 nx1 ny1; omega
    have HV : Hid (∀ q r : Nat, q = k / xs.length → r = k % xs.length → rectV l b xs ys (k : Int) = .agg #[.int .i64 (8 * sumT xs r), .int .i64 (8 * sumT ys q), .int .i64 (8 * xs.getD r 0), .int .i64 (8 * ys.getD q 0)]) := by
      intro q r hq hr
      subst hq hr
      unfold rectV rL rT rW rH
      rw [if_pos ho]; rfl
    have HV2 := HV.out _ _ rfl rfl
    have HV3 : Hid (rectV l b xs ys (k : Int) = _) := HV2
    have m1 : Int.tmod (k : Int) (xs.length : Int) = ((k % xs.length : Nat) : Int) := by rw [Int.tmod_eq_emod_of_nonneg (by omega)]; rfl
    have m2 : Int.tdiv (k : Int) (xs.length : Int) = ((k / xs.length : Nat) : Int) := by rw [Int.tdiv_eq_ediv_of_nonneg (by omega)]; rfl
    have m3 : ((k % xs.length : Nat) : Int) < (xs.length : Int) := by omega
    have m4 : ((k / xs.length : Nat) : Int) < (ys.length : Int) := by omega
    have ew : w.heap.size < w1.heap.size := B1.lt
    have hr1 : w.heap.size + 1 < w1.heap.size := R1.lt
    clear HV HV2 hs ho nx0 nx1 ny0 ny1 gx gy hk B1 hm hd x0 x1
    generalize k % xs.length = r at *
    generalize k / xs.length = q at *
    generalize 8 * sumT xs r = vL at *
    generalize 8 * sumT ys q = vT at *
    generalize 8 * xs.getD r 0 = vW at *
    generalize 8 * ys.getD q 0 = vH at *
    clear H
    generalize xs.length = n at *
    generalize ys.length = m at *
    have z2 : ¬ n = 0 := by omega
    have m5 : IntKind.i64.wrap (q : Int) = (q : Int) := IntWalk.i64_in _ ⟨by omega, by omega⟩
    have HB : Hid (Below w.heap.size w w1 ∧ Blk w1 (w.heap.size + 1) #[.int .i64 0, .int .i64 0, .int .i64 0, .int .i64 0] 41) := ⟨hb1, R1⟩
    go_wp2_with fail
    go_cut [6] from 17 to 26 (fun p wc => ∃ g, p = .pointer (some ⟨g, 0, none⟩) ∧ Blk wc g #[.int .i64 (r : Int), .int .i64 vL, .int .i64 vW] 73 ∧ Below w1.heap.size w1 wc)
    case first =>
      clear HR HV3 x3 l2 l3 m4 m5 m2 t0 HT tn l4 l5 R1 HB hr1
      have x2y : (w1.drew.alloc (.cells #[.int .i64 0, .int .i64 0, .int .i64 0] 73)).cell? ⟨w.heap.size, 2, none⟩ = some (.slice a1 n c1) := by rw [World.cell?_alloc_lt _ _ _ (by simpa using ew)]; exact x2
      go_region_with ((go_at_call 46; refine (HC.out _ (by go_grown)).mono ?_; rintro e w2 ⟨g, cp, rfl, g0, g1, hcell, hc2⟩; have hq : Below w1.heap.size w1 w2 := (show Below w1.heap.size w1 _ by go_grown).trans (hc2.mono (by simp)); have x2a := (hq.cell (p := ⟨w.heap.size, 2, none⟩) ew).trans x2; have x2b : (w2.alloc (.cells #[.int .i64 0, .int .i64 0, .int .i64 0] 73)).cell? ⟨w.heap.size, 2, none⟩ = some (.slice a1 n c1) := (by rw [World.cell?_alloc_lt _ _ _ (Nat.lt_of_lt_of_le ew hq.size)]; exact x2a); obtain ⟨d0, d1, d2⟩ := hcell w2 (Below.refl _ _); obtain ⟨d0', d1', d2'⟩ := hcell (w2.alloc (.cells #[.int .i64 0, .int .i64 0, .int .i64 0] 73)) ((Below.refl _ _).alloc (Nat.le_refl _) _); (first | (have Z : Blk w2 w1.heap.size #[.int .i64 0, .int .i64 0, .int .i64 0] 73 := (Blk.new w1.drew #[.int .i64 0, .int .i64 0, .int .i64 0] 73).below hc2 (by simp); obtain ⟨⟨zz0, zz1, zz2⟩, ff0, ff1, ff2⟩ := Z.three; have F : Blk (((w2.setCell ⟨w1.heap.size, 0, none⟩ (.int .i64 (r : Int))).setCell ⟨w1.heap.size, 1, none⟩ (.int .i64 vL)).setCell ⟨w1.heap.size, 2, none⟩ (.int .i64 vW)) w1.heap.size #[.int .i64 (r : Int), .int .i64 vL, .int .i64 vW] 73 ∧ Below w1.heap.size w1 (((w2.setCell ⟨w1.heap.size, 0, none⟩ (.int .i64 (r : Int))).setCell ⟨w1.heap.size, 1, none⟩ (.int .i64 vL)).setCell ⟨w1.heap.size, 2, none⟩ (.int .i64 vW)) := ⟨((Z.set 0 _ (by simp)).set 1 _ (by simp)).set 2 _ (by simp), ((hq.setCell (Nat.le_refl _) _).setCell (Nat.le_refl _) _).setCell (Nat.le_refl _) _⟩; clear Z) | (have F : Blk (w2.alloc (.cells #[.int .i64 (r : Int), .int .i64 vL, .int .i64 vW] 73)) w2.heap.size #[.int .i64 (r : Int), .int .i64 vL, .int .i64 vW] 73 ∧ Below w1.heap.size w1 (w2.alloc (.cells #[.int .i64 (r : Int), .int .i64 vL, .int .i64 vW] 73)) := ⟨Blk.new _ _ _, hq.alloc hq.size _⟩)); have HF : Hid _ := F; clear F hcell g0 g1))
      all_goals
        go_wp2_with fail
        go_meet
        with_reducible exact ⟨_, rfl, HF.out⟩
    case rest =>
    revert hcut
    generalize wc = wx
    rintro ⟨g1, rfl, C1, hbc⟩
    clear wc
    have x2c := (hbc.cell (p := ⟨w.heap.size, 2, none⟩) ew).trans x2
    have x3c := (hbc.cell (p := ⟨w.heap.size, 3, none⟩) ew).trans x3
    have hbw := hb1.trans (hbc.mono hb1.size)
    have R2 := HB.out.2.below hbc hr1
    have ewx : w.heap.size < wx.heap.size := Nat.lt_of_lt_of_le ew hbc.size
    clear x2 x3 hb1 hbc HB R1 hr1 HC m1 m3 ew
    have x2 := x2c
    have x3 := x3c
    have ew := ewx
    clear x2c x3c ewx
    have HB : Hid (Blk wx (w.heap.size + 1) #[.int .i64 0, .int .i64 0, .int .i64 0, .int .i64 0] 41 ∧ Blk wx g1 #[.int .i64 (r : Int), .int .i64 vL, .int .i64 vW] 73) := ⟨R2, C1⟩
    clear R2 C1
    go_wp2_with fail
    go_cut [7] from 27 to 36 (fun p wc => ∃ g, p = .pointer (some ⟨g, 0, none⟩) ∧ Blk wc g #[.int .i64 (q : Int), .int .i64 vT, .int .i64 vH] 73 ∧ Below wx.heap.size wx wc)
    case first =>
      clear HV3 t0 HT tn l4 l5 HB
      have x2y : (wx.drew.alloc (.cells #[.int .i64 0, .int .i64 0, .int .i64 0] 73)).cell? ⟨w.heap.size, 2, none⟩ = some (.slice a1 n c1) := by rw [World.cell?_alloc_lt _ _ _ (by simpa using ew)]; exact x2
      have x3y : (wx.drew.alloc (.cells #[.int .i64 0, .int .i64 0, .int .i64 0] 73)).cell? ⟨w.heap.size, 3, none⟩ = some (.slice a2 m c2) := by rw [World.cell?_alloc_lt _ _ _ (by simpa using ew)]; exact x3
      go_region_with ((go_at_call 46; refine (HR.out _ (by go_grown)).mono ?_; rintro e w2 ⟨g, cp, rfl, g0, g1, hcell, hc2⟩; have hq : Below wx.heap.size wx w2 := (show Below wx.heap.size wx _ by go_grown).trans (hc2.mono (by simp)); have x2a := (hq.cell (p := ⟨w.heap.size, 2, none⟩) ew).trans x2; have x2b : (w2.alloc (.cells #[.int .i64 0, .int .i64 0, .int .i64 0] 73)).cell? ⟨w.heap.size, 2, none⟩ = some (.slice a1 n c1) := (by rw [World.cell?_alloc_lt _ _ _ (Nat.lt_of_lt_of_le ew hq.size)]; exact x2a); have x3a := (hq.cell (p := ⟨w.heap.size, 3, none⟩) ew).trans x3; have x3b : (w2.alloc (.cells #[.int .i64 0, .int .i64 0, .int .i64 0] 73)).cell? ⟨w.heap.size, 3, none⟩ = some (.slice a2 m c2) := (by rw [World.cell?_alloc_lt _ _ _ (Nat.lt_of_lt_of_le ew hq.size)]; exact x3a); obtain ⟨d0, d1, d2⟩ := hcell w2 (Below.refl _ _); obtain ⟨d0', d1', d2'⟩ := hcell (w2.alloc (.cells #[.int .i64 0, .int .i64 0, .int .i64 0] 73)) ((Below.refl _ _).alloc (Nat.le_refl _) _); (first | (have Z : Blk w2 wx.heap.size #[.int .i64 0, .int .i64 0, .int .i64 0] 73 := (Blk.new wx.drew #[.int .i64 0, .int .i64 0, .int .i64 0] 73).below hc2 (by simp); obtain ⟨⟨zz0, zz1, zz2⟩, ff0, ff1, ff2⟩ := Z.three; have F : Blk (((w2.setCell ⟨wx.heap.size, 0, none⟩ (.int .i64 (q : Int))).setCell ⟨wx.heap.size, 1, none⟩ (.int .i64 vT)).setCell ⟨wx.heap.size, 2, none⟩ (.int .i64 vH)) wx.heap.size #[.int .i64 (q : Int), .int .i64 vT, .int .i64 vH] 73 ∧ Below wx.heap.size wx (((w2.setCell ⟨wx.heap.size, 0, none⟩ (.int .i64 (q : Int))).setCell ⟨wx.heap.size, 1, none⟩ (.int .i64 vT)).setCell ⟨wx.heap.size, 2, none⟩ (.int .i64 vH)) := ⟨((Z.set 0 _ (by simp)).set 1 _ (by simp)).set 2 _ (by simp), ((hq.setCell (Nat.le_refl _) _).setCell (Nat.le_refl _) _).setCell (Nat.le_refl _) _⟩; clear Z) | (have F : Blk (w2.alloc (.cells #[.int .i64 (q : Int), .int .i64 vT, .int .i64 vH] 73)) w2.heap.size #[.int .i64 (q : Int), .int .i64 vT, .int .i64 vH] 73 ∧ Below wx.heap.size wx (w2.alloc (.cells #[.int .i64 (q : Int), .int .i64 vT, .int .i64 vH] 73)) := ⟨Blk.new _ _ _, hq.alloc hq.size _⟩)); have HF : Hid _ := F; clear F hcell g0 g1))
      all_goals
        go_wp2_with fail
        go_meet
        with_reducible exact ⟨_, rfl, HF.out⟩
    case rest =>
    obtain ⟨g2, rfl, C2, hbd⟩ := hcut
    have D1 := HB.out.2.below hbd HB.out.2.lt
    have R3 := HB.out.1.below hbd HB.out.1.lt
    have hbz := hbw.trans (hbd.mono hbw.size)
    obtain ⟨⟨p0, p1, p2⟩, _⟩ := D1.three
    obtain ⟨⟨q0, q1, q2⟩, _⟩ := C2.three
    obtain ⟨⟨r0, r1, r2, r3⟩, f0, f1, f2, f3⟩ := R3.four
    have HR3 : Hid (Blk wc (w.heap.size + 1) #[.int .i64 0, .int .i64 0, .int .i64 0, .int .i64 0] 41 ∧ Below w.heap.size w wc) := ⟨R3, hbz⟩
    clear D1 C2 R3 x2 x3 HB hbw hbd hbz HR
    go_wp2_with fail
    have HZ : Hid (Blk ((((wc.setCell ⟨w.heap.size + 1, 0, none⟩ (.int .i64 vL)).setCell ⟨w.heap.size + 1, 1, none⟩ (.int .i64 vT)).setCell ⟨w.heap.size + 1, 2, none⟩ (.int .i64 vW)).setCell ⟨w.heap.size + 1, 3, none⟩ (.int .i64 vH)) (w.heap.size + 1) #[.int .i64 vL, .int .i64 vT, .int .i64 vW, .int .i64 vH] 41) :=
      (((HR3.out.1.set 0 _ (by simp)).set 1 _ (by simp)).set 2 _ (by simp)).set 3 _ (by simp)
    refine bodyPost_ret (results_cell_one rfl _ _ (w.heap.size + 1) 41 _ (0, 0) _ rfl HZ.out Tryd.underlying41 rfl (by kernel_rfl)) rfl ?_
    refine ⟨by rw [HV3.out, HO.out]; rfl, ?_⟩
    exact (((HR3.out.2.setCell (by simp) _).setCell (by simp) _).setCell (by simp) _).setCell (by simp) _
end Go.Proofs.YtigcoboaeibcjaaDoor
