/-
  The walks of spec.l06Before and spec.TileRect.
-/
import Derived.Test.YtigcoboaeibcjaaDoorGridVal
import Derived.Deep.CutRange
namespace Go.Proofs.YtigcoboaeibcjaaDoor
open Go.RowKit
set_option linter.unusedVariables false
set_option maxRecDepth 20000

set_option maxHeartbeats 800000 in
theorem before_any (a : Option Addr) (cap : Nat) (xs : List Int) (j : Nat) (w : World) (ht : Ints w a xs) (hg : goodT xs xs.length) (hl : xs.length ≤ 4) (hj : j < xs.length) :
    Calls Tryd.prog 51 #[.slice a xs.length cap, .int .i64 (j : Int)] w fun e w' => e = .returned (.int .i64 (sumT xs j)) ∧ w' = w := by
  have HT : Hid (Ints w a xs) := ht
  have HG : Hid (goodT xs xs.length) := hg
  clear ht hg
  have hl' : (xs.length : Int) ≤ 4 := by omega
  have hj' : (j : Int) < (xs.length : Int) := by omega
  go_enter Tryd.func51, Tryd.ntmps51
  go_wp2
  go_loopw [5, 6] (fun v i wr => ∃ k : Nat, k ≤ j ∧ i = .int .i64 k ∧ v = .int .i64 (sumT xs k) ∧ wr = w)
    (fun _ i _ => j - (intOf i).toNat)
  case atStart => exact ⟨0, Nat.zero_le _, rfl, rfl, rfl⟩
  case round =>
    obtain ⟨k, hk, rfl, rfl, rfl⟩ := hrel
    by_cases hlt : k < j
    · rcases HT.out with h | ⟨b, off, rfl, hg, hc⟩
      · rw [h] at hj; simp at hj
      have d1 := hc k (by omega)
      have HS : Hid (sumT xs (k + 1) = sumT xs k + xs.getD k 0) := sumT_succ xs k (by omega)
      obtain ⟨s0, s1⟩ := sumT_bd xs k (by omega) (fun i hi => HG.out i (by omega))
      obtain ⟨x0, x1⟩ := HG.out k (by omega)
      clear hc
      have l0 : (0 : Int) ≤ (k : Int) := by omega
      have l1 : (k : Int) < (xs.length : Int) := by omega
      generalize sumT xs k = s at *
      generalize xs.getD k 0 = x at *
      go_wp2
      go_roundw
      case rel => exact ⟨k + 1, by omega, by go_num, by rw [HS.out], trivial⟩
      case measure => simp [intOf]; omega
    · obtain rfl : k = j := by omega
      go_wp2
      go_ret
      exact ⟨rfl, rfl⟩

set_option maxHeartbeats 1600000 in
theorem specTileRect (l b : Int) (a1 a2 : Option Addr) (c1 c2 : Nat) (xs ys : List Int) (t : Int) (w : World) (h : SetIn w a1 a2 xs ys) :
    Calls Tryd.prog 28 #[.agg #[.int .i64 l, .int .i64 b, .slice a1 xs.length c1, .slice a2 ys.length c2], .int .i64 t] w fun e w' => e = .returned (.tuple #[rectV l b xs ys t, .bool (okT l b xs ys t)]) ∧ Below w.heap.size w w' := by
  have H : Hid (SetIn w a1 a2 xs ys) := h
  clear h
  by_cases t0 : t < 0
  · have HR : Hid (okT l b xs ys t = false) := by unfold okT; rw [show decide (0 ≤ t) = false by simp; omega]; rfl
    go_enter Tryd.func28, Tryd.ntmps28
    go_wp2_with fail
    have HZ : Hid (Blk ((w.alloc (.cells #[.int .i64 l, .int .i64 b, .slice a1 xs.length c1, .slice a2 ys.length c2] 26)).alloc (.cells #[.int .i64 0, .int .i64 0, .int .i64 0, .int .i64 0] 41)) (w.heap.size + 1) #[.int .i64 0, .int .i64 0, .int .i64 0, .int .i64 0] 41) := Blk.new' _ _ (by simp)
    refine bodyPost_ret (results_cell_one rfl _ _ (w.heap.size + 1) 41 _ (0, 0) _ rfl HZ.out Tryd.underlying41 rfl (by kernel_rfl)) rfl ?_
    exact ⟨by rw [rectV_no HR.out, HR.out]; rfl, by go_grown⟩
  go_enter Tryd.func28, Tryd.ntmps28
  go_wp2_with fail
  generalize hW : World.alloc (World.alloc w _) _ = W
  have B0 : Blk W w.heap.size #[.int .i64 l, .int .i64 b, .slice a1 xs.length c1, .slice a2 ys.length c2] 26 := by rw [← hW]; exact (Blk.new w _ _).alloc _
  have hb0 : Below w.heap.size w W := by rw [← hW]; exact ((Below.refl _ _).alloc (Nat.le_refl _) _).alloc (by simp) _
  have R0 : Blk W (w.heap.size + 1) #[.int .i64 0, .int .i64 0, .int .i64 0, .int .i64 0] 41 := by rw [← hW]; exact Blk.new' _ _ (by simp)
  clear hW
  refine (specTilesOf _ _ _ _ _ _ _ _ W (H.out.below hb0 (Nat.le_refl _))).mono ?_
  rintro e w1 ⟨rfl, hc⟩
  have hb1 := hb0.trans (hc.mono hb0.size)
  have B1 := B0.below hc B0.lt
  have R1 := R0.below hc R0.lt
  obtain ⟨⟨x0, x1, x2, x3⟩, _⟩ := B1.four
  clear hc hb0 B0 R0
  cases ho : okT l b xs ys t with
  | false =>
    have HR : Hid (okT l b xs ys t = false) := ho
    have tn : tilesI l b xs ys ≤ t := by
      unfold okT at ho
      rw [show decide (0 ≤ t) = true by simp; omega] at ho
      simp at ho; exact ho
    clear ho
    generalize tilesI l b xs ys = T at *
    obtain ⟨⟨r0, r1, r2, r3⟩, f0, f1, f2, f3⟩ := R1.four
    have HZ : Hid (Blk ((((w1.setCell ⟨w.heap.size + 1, 0, none⟩ (.int .i64 0)).setCell ⟨w.heap.size + 1, 1, none⟩ (.int .i64 0)).setCell ⟨w.heap.size + 1, 2, none⟩ (.int .i64 0)).setCell ⟨w.heap.size + 1, 3, none⟩ (.int .i64 0)) (w.heap.size + 1) #[.int .i64 0, .int .i64 0, .int .i64 0, .int .i64 0] 41) :=
      (((R1.set 0 _ (by simp)).set 1 _ (by simp)).set 2 _ (by simp)).set 3 _ (by simp)
    clear R1 B1
    go_wp2_with fail
    refine bodyPost_ret (results_cell_one rfl _ _ (w.heap.size + 1) 41 _ (0, 0) _ rfl HZ.out Tryd.underlying41 rfl (by kernel_rfl)) rfl ?_
    exact ⟨by rw [rectV_no HR.out, HR.out]; rfl, (((hb1.setCell (by simp) _).setCell (by simp) _).setCell (by simp) _).setCell (by simp) _⟩
  | true =>
    obtain ⟨hs, k, rfl, hk⟩ := okT_true ho
    have HO : Hid (okT l b xs ys (k : Int) = true) := ho
    obtain ⟨⟨gx, nx0, nx1⟩, ⟨gy, ny0, ny1⟩, _⟩ := seq_sides hs
    have HT : Hid (tilesI l b xs ys = (xs.length : Int) * (ys.length : Int)) := tilesI_yes hs
    have tn : (k : Int) < tilesI l b xs ys := by rw [HT.out]; have : (k : Int) < ((xs.length * ys.length : Nat) : Int) := by omega
                                                 rwa [Int.natCast_mul] at this
    generalize tilesI l b xs ys = T at *
    have hm : k % xs.length < xs.length := Nat.mod_lt _ (by omega)
    have hd : k / xs.length < ys.length := div_lt' hk
    have HC : Hid (∀ w', Below w.heap.size w w' → Calls Tryd.prog 51 #[.slice a1 xs.length c1, .int .i64 ((k % xs.length : Nat) : Int)] w' (fun e w'' => e = .returned (.int .i64 (sumT xs (k % xs.length))) ∧ w'' = w')) := fun w' hb => before_any a1 c1 xs _ w' (H.out.below hb (Nat.le_refl _)).1.1 gx nx1 hm
    have HR : Hid (∀ w', Below w.heap.size w w' → Calls Tryd.prog 51 #[.slice a2 ys.length c2, .int .i64 ((k / xs.length : Nat) : Int)] w' (fun e w'' => e = .returned (.int .i64 (sumT ys (k / xs.length))) ∧ w'' = w')) := fun w' hb => before_any a2 c2 ys _ w' (H.out.below hb (Nat.le_refl _)).1.2.1 gy ny1 hd
    rcases H.out.1.1 with hn | ⟨b1, o1, rfl, hg1, hcx⟩
    · rw [hn] at nx0; simp at nx0
    rcases H.out.1.2.1 with hn | ⟨b2, o2, rfl, hg2, hcy⟩
    · rw [hn] at ny0; simp at ny0
    have i1 := (hb1.cell (p := ⟨b1, o1 + k % xs.length, none⟩) hg1).trans (hcx _ hm)
    have i2 := (hb1.cell (p := ⟨b2, o2 + k / xs.length, none⟩) hg2).trans (hcy _ hd)
    have ne1 : ¬ b1 = w.heap.size + 1 := by omega
    have ne2 : ¬ b2 = w.heap.size + 1 := by omega
    obtain ⟨g0, g1⟩ := gx _ hm
    obtain ⟨g2, g3⟩ := gy _ hd
    obtain ⟨s0, s1⟩ := sumT_bd xs (k % xs.length) (by omega) (fun i hi => gx i (by omega))
    obtain ⟨s2, s3⟩ := sumT_bd ys (k / xs.length) (by omega) (fun i hi => gy i (by omega))
    have l0 : (1 : Int) ≤ (xs.length : Int) := by omega
    have l1 : (xs.length : Int) ≤ 4 := by omega
    have l2 : (1 : Int) ≤ (ys.length : Int) := by omega
    have l3 : (ys.length : Int) ≤ 4 := by omega
    have l4 : (0 : Int) ≤ (k : Int) := by omega
    have HV3 : Hid (rectV l b xs ys (k : Int) = .agg #[.int .i64 (8 * sumT xs (k % xs.length)), .int .i64 (8 * sumT ys (k / xs.length)), .int .i64 (8 * xs.getD (k % xs.length) 0), .int .i64 (8 * ys.getD (k / xs.length) 0)]) := by
      unfold rectV rL rT rW rH
      rw [if_pos ho]; rfl
    have m1 : Int.tmod (k : Int) (xs.length : Int) = ((k % xs.length : Nat) : Int) := by rw [Int.tmod_eq_emod_of_nonneg (by omega)]; rfl
    have m2 : Int.tdiv (k : Int) (xs.length : Int) = ((k / xs.length : Nat) : Int) := by rw [Int.tdiv_eq_ediv_of_nonneg (by omega)]; rfl
    have m3 : ((k % xs.length : Nat) : Int) < (xs.length : Int) := by omega
    have m4 : ((k / xs.length : Nat) : Int) < (ys.length : Int) := by omega
    have hz : (((k % xs.length : Nat) : Int)) ≤ 4 ∧ (((k / xs.length : Nat) : Int)) ≤ 4 := by omega
    clear hs ho nx0 nx1 ny0 ny1 gx gy hk hcx hcy H hm hd
    generalize k % xs.length = r at *
    generalize k / xs.length = q at *
    generalize sumT xs r = vL at *
    generalize sumT ys q = vT at *
    generalize xs.getD r 0 = vW at *
    generalize ys.getD q 0 = vH at *
    generalize xs.length = n at *
    generalize ys.length = m at *
    have z2 : ¬ n = 0 := by omega
    obtain ⟨⟨r0, r1, r2, r3⟩, f0, f1, f2, f3⟩ := R1.four
    have p1 : IntKind.i64.wrap (8 * vL) = 8 * vL := IntWalk.i64_in _ ⟨by omega, by omega⟩
    have p2 : IntKind.i64.wrap (8 * vT) = 8 * vT := IntWalk.i64_in _ ⟨by omega, by omega⟩
    have p3 : IntKind.i64.wrap (8 * vW) = 8 * vW := IntWalk.i64_in _ ⟨by omega, by omega⟩
    have p4 : IntKind.i64.wrap (8 * vH) = 8 * vH := IntWalk.i64_in _ ⟨by omega, by omega⟩
    have HR3 : Hid (Blk w1 (w.heap.size + 1) #[.int .i64 0, .int .i64 0, .int .i64 0, .int .i64 0] 41 ∧ Below w.heap.size w w1) := ⟨R1, hb1⟩
    have hbS : Below (w.heap.size + 1) w1 ((((w1.setCell ⟨w.heap.size + 1, 0, none⟩ (.int .i64 (8 * vL))).setCell ⟨w.heap.size + 1, 1, none⟩ (.int .i64 (8 * vT))).setCell ⟨w.heap.size + 1, 2, none⟩ (.int .i64 (8 * vW))).setCell ⟨w.heap.size + 1, 3, none⟩ (.int .i64 (8 * vH))).drew := by go_grown
    have KS : Hid ((((((w1.setCell ⟨w.heap.size + 1, 0, none⟩ (.int .i64 (8 * vL))).setCell ⟨w.heap.size + 1, 1, none⟩ (.int .i64 (8 * vT))).setCell ⟨w.heap.size + 1, 2, none⟩ (.int .i64 (8 * vW))).setCell ⟨w.heap.size + 1, 3, none⟩ (.int .i64 (8 * vH))).drew.cell? ⟨w.heap.size, 2, none⟩ = some (.slice (some ⟨b1, o1, none⟩) n c1) ∧ ((((w1.setCell ⟨w.heap.size + 1, 0, none⟩ (.int .i64 (8 * vL))).setCell ⟨w.heap.size + 1, 1, none⟩ (.int .i64 (8 * vT))).setCell ⟨w.heap.size + 1, 2, none⟩ (.int .i64 (8 * vW))).setCell ⟨w.heap.size + 1, 3, none⟩ (.int .i64 (8 * vH))).drew.cell? ⟨w.heap.size, 3, none⟩ = some (.slice (some ⟨b2, o2, none⟩) m c2)) ∧ ((((w1.setCell ⟨w.heap.size + 1, 0, none⟩ (.int .i64 (8 * vL))).setCell ⟨w.heap.size + 1, 1, none⟩ (.int .i64 (8 * vT))).setCell ⟨w.heap.size + 1, 2, none⟩ (.int .i64 (8 * vW))).setCell ⟨w.heap.size + 1, 3, none⟩ (.int .i64 (8 * vH))).drew.cell? ⟨b1, o1 + r, none⟩ = some (.int .i64 vW) ∧ ((((w1.setCell ⟨w.heap.size + 1, 0, none⟩ (.int .i64 (8 * vL))).setCell ⟨w.heap.size + 1, 1, none⟩ (.int .i64 (8 * vT))).setCell ⟨w.heap.size + 1, 2, none⟩ (.int .i64 (8 * vW))).setCell ⟨w.heap.size + 1, 3, none⟩ (.int .i64 (8 * vH))).drew.cell? ⟨b2, o2 + q, none⟩ = some (.int .i64 vH)) :=
      ⟨⟨(hbS.cell (p := ⟨w.heap.size, 2, none⟩) (Nat.lt_succ_self _)).trans x2, (hbS.cell (p := ⟨w.heap.size, 3, none⟩) (Nat.lt_succ_self _)).trans x3⟩, (hbS.cell (p := ⟨b1, o1 + r, none⟩) (Nat.lt_succ_of_lt hg1)).trans i1, (hbS.cell (p := ⟨b2, o2 + q, none⟩) (Nat.lt_succ_of_lt hg2)).trans i2⟩
    clear R1 B1 HT hbS
    go_wp2_with fail
    go_region_held3 (fun w' => (w'.cell? ⟨w.heap.size, 2, none⟩ = some (.slice (some ⟨b1, o1, none⟩) n c1) ∧ w'.cell? ⟨w.heap.size, 3, none⟩ = some (.slice (some ⟨b2, o2, none⟩) m c2)) ∧ w'.cell? ⟨b1, o1 + r, none⟩ = some (.int .i64 vW) ∧ w'.cell? ⟨b2, o2 + q, none⟩ = some (.int .i64 vH)) (first | with_reducible exact KS.out | go_keep | exact KS.out.1.1 | exact KS.out.1.2 | exact KS.out.2.1 | exact KS.out.2.2)
      (first
        | (go_at_call_of 51 (Value.slice (some ⟨b1, o1, none⟩) n c1); refine (HC.out _ (by go_grown)).mono ?_; rintro e w2 ⟨rfl, hw⟩; subst w2)
        | (go_at_call_of 51 (Value.slice (some ⟨b2, o2, none⟩) m c2); refine (HR.out _ (by go_grown)).mono ?_; rintro e w2 ⟨rfl, hw⟩; subst w2))
    go_wp2
    have HZ : Hid (Blk ((((w1.setCell ⟨w.heap.size + 1, 0, none⟩ (.int .i64 (8 * vL))).setCell ⟨w.heap.size + 1, 1, none⟩ (.int .i64 (8 * vT))).setCell ⟨w.heap.size + 1, 2, none⟩ (.int .i64 (8 * vW))).setCell ⟨w.heap.size + 1, 3, none⟩ (.int .i64 (8 * vH))).drew (w.heap.size + 1) #[.int .i64 (8 * vL), .int .i64 (8 * vT), .int .i64 (8 * vW), .int .i64 (8 * vH)] 41) :=
      ((((HR3.out.1.set 0 _ (by simp)).set 1 _ (by simp)).set 2 _ (by simp)).set 3 _ (by simp)).drew
    refine bodyPost_ret (results_cell_one rfl _ _ (w.heap.size + 1) 41 _ (0, 0) _ rfl HZ.out Tryd.underlying41 rfl (by kernel_rfl)) rfl ?_
    refine ⟨by rw [HV3.out, HO.out]; rfl, ?_⟩
    exact ((((HR3.out.2.setCell (by simp) _).setCell (by simp) _).setCell (by simp) _).setCell (by simp) _).drew
end Go.Proofs.YtigcoboaeibcjaaDoor
