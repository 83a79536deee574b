/-
  The walk of laws.FnGreys: a grey picture is right and grey at each place, also outside; a block of it, too.
-/
import Derived.Test.YtpodpfdbklffgaaCodeKit
import Derived.Test.YtpodpfdbklffgaaDrawPlaces
import Derived.Test.YtpodpfdbklffgaaGreysMath
import Derived.Test.YtpodpfdbklffgaaBlockKit
import Derived.Test.YtpodpfdbklffgaaOwnCap
import Derived.Test.YtpodpfdbklffgaaCropOf
import Derived.Deep.CutRange
import Derived.Deep.RegionHeld3
import Derived.Deep.RegionWith
namespace Go.Proofs.Ytpodpfdbklffgaa
open Go.RowKit
set_option linter.unusedVariables false
set_option maxRecDepth 20000

set_option maxHeartbeats 4000000 in
theorem fnGreys_walk (a : Option Addr) (len cap : Nat) (w : World) (hc : CodeIn w a len cap) :
    Calls Try.prog 4 #[.slice a len cap] w fun e w' => e = .returned (.bool true) ∧ Below w.heap.size w w' := by
  obtain ⟨hlen, _, hrow⟩ := hc
  have HRow : Hid (CodeRow w w.heap.size a len) := hrow
  clear hrow
  go_enter Try.func4, Try.ntmps4
  go_wp2_with fail
  refine (big_any a len cap w hlen).mono ?_
  rintro e w0 ⟨rfl, hw⟩
  subst w0
  go_wp2_with fail
  refine (drawPlaces_any a len cap _ _ HRow.out (Nat.le_refl _)).mono ?_
  rintro e w1 ⟨g, c, L, rfl, hl, hall, hown, hb1⟩
  have HC : Hid (∀ w', Below w1.heap.size w1 w' → ∀ j, j < 12 → w'.cell? ⟨g, j, none⟩ = some (.int .i64 (L.getD j 0))) := fun w' hb j hj => (hb.cell (p := ⟨g, j, none⟩) (hown.lt g rfl).2).trans (cellI hown hl j hj)
  obtain ⟨a0, h0⟩ : ∃ x, L.getD 0 0 = x := ⟨_, rfl⟩
  obtain ⟨a1, h1⟩ : ∃ x, L.getD 1 0 = x := ⟨_, rfl⟩
  obtain ⟨a2, h2⟩ : ∃ x, L.getD 2 0 = x := ⟨_, rfl⟩
  obtain ⟨a3, h3⟩ : ∃ x, L.getD 3 0 = x := ⟨_, rfl⟩
  obtain ⟨a4, h4⟩ : ∃ x, L.getD 4 0 = x := ⟨_, rfl⟩
  obtain ⟨a5, h5⟩ : ∃ x, L.getD 5 0 = x := ⟨_, rfl⟩
  have n0 := getD_in hl (show 0 < 12 by omega) hall
  have n1 := getD_in hl (show 1 < 12 by omega) hall
  have n2 := getD_in hl (show 2 < 12 by omega) hall
  have n3 := getD_in hl (show 3 < 12 by omega) hall
  have n4 := getD_in hl (show 4 < 12 by omega) hall
  have n5 := getD_in hl (show 5 < 12 by omega) hall
  rw [h0] at n0
  rw [h1] at n1
  rw [h2] at n2
  rw [h3] at n3
  rw [h4] at n4
  rw [h5] at n5
  have DK : Hid (∀ w', Below w1.heap.size w1 w' → w'.cell? ⟨g, 0, none⟩ = some (.int .i64 a0) ∧ w'.cell? ⟨g, 1, none⟩ = some (.int .i64 a1) ∧ w'.cell? ⟨g, 2, none⟩ = some (.int .i64 a2) ∧ w'.cell? ⟨g, 3, none⟩ = some (.int .i64 a3) ∧ w'.cell? ⟨g, 4, none⟩ = some (.int .i64 a4) ∧ w'.cell? ⟨g, 5, none⟩ = some (.int .i64 a5)) := fun w' hb => by
    rw [← h0, ← h1, ← h2, ← h3, ← h4, ← h5]
    exact ⟨HC.out w' hb 0 (by omega), HC.out w' hb 1 (by omega), HC.out w' hb 2 (by omega), HC.out w' hb 3 (by omega), HC.out w' hb 4 (by omega), HC.out w' hb 5 (by omega)⟩
  have hgl := (hown.lt g rfl).2
  clear h0 h1 h2 h3 h4 h5 HC hown hl hall HRow
  have b0 : 1 ≤ 1 + a0 % 40 ∧ 1 + a0 % 40 ≤ 256 := by omega
  have b1 : 1 ≤ 1 + a1 % 40 ∧ 1 + a1 % 40 ≤ 256 := by omega
  have hz := sides_mul b0 b1
  obtain ⟨T, hT⟩ : ∃ T, greyT ((1 + a0 % 40) * (1 + a1 % 40)).toNat = T := ⟨_, rfl⟩
  have CG : Hid (∀ w', Calls Try.prog 19 #[.int .i64 (1 + a0 % 40), .int .i64 (1 + a1 % 40)] w' (fun e w'' => e = .returned (picV (1 + a0 % 40) (1 + a1 % 40) T) ∧ Below w'.heap.size w' w'')) := fun w' => by
    have := implGrey (1 + a0 % 40) (1 + a1 % 40) w'
    unfold greyV at this
    rw [sideB_iff.2 b0, sideB_iff.2 b1, hT] at this
    exact this
  have CB : Hid (∀ w', Calls Try.prog 20 #[picV (1 + a0 % 40) (1 + a1 % 40) T, .int .i64 (a2 % 100 - 50), .int .i64 (a3 % 100 - 50)] w' (fun e w'' => (∃ v, e = .returned v ∧ w''.ownsRow w'.heap.size 3 1 v 64 ((List.replicate 64 (128 : Int)).map (Value.int .i64))) ∧ Below w'.heap.size w' w'')) := fun w' => by
    have := implBlockOf (1 + a0 % 40) (1 + a1 % 40) T (a2 % 100 - 50) (a3 % 100 - 50) w'
    rw [← hT, grey_block b0 b1 (by omega) (by omega), List.length_replicate] at this
    rw [← hT]
    exact this
  have CO : Hid (∀ w', Calls Try.prog 21 #[picV (1 + a0 % 40) (1 + a1 % 40) T] w' (fun e w'' => e = .returned (.bool true) ∧ Below w'.heap.size w' w'')) := fun w' => by
    have := implPicOk (1 + a0 % 40) (1 + a1 % 40) T w'
    rw [← hT, grey_ok b0 b1] at this
    rw [← hT]
    exact this
  have CD : Hid (∀ w', Calls Try.prog 17 #[picV (1 + a0 % 40) (1 + a1 % 40) T, .int .i64 (a4 - 5000), .int .i64 (a5 - 5000)] w' (fun e w'' => e = .returned (.int .i64 128) ∧ Below w'.heap.size w' w'')) := fun w' => by
    have := implDotAt (1 + a0 % 40) (1 + a1 % 40) T (a4 - 5000) (a5 - 5000) w'
    unfold dotO at this
    rw [← hT, grey_ok b0 b1, if_pos rfl, grey_dot b0 b1] at this
    rw [← hT]
    exact this
  clear hT hz
  have HX1 : Below w1.heap.size w1 w1 := Below.refl _ _
  have t0 : Int.tmod a0 40 = a0 % 40 := Int.tmod_eq_emod_of_nonneg n0.1
  have t1 : Int.tmod a1 40 = a1 % 40 := Int.tmod_eq_emod_of_nonneg n1.1
  have v0 : IntKind.i64.wrap (1 + a0 % 40) = 1 + a0 % 40 := IntWalk.i64_in _ ⟨by omega, by omega⟩
  have v1 : IntKind.i64.wrap (1 + a1 % 40) = 1 + a1 % 40 := IntWalk.i64_in _ ⟨by omega, by omega⟩
  have gl : g < w1.heap.size := hgl
  obtain ⟨d0, d1, d2, d3, d4, d5⟩ := DK.out w1 (Below.refl _ _)
  go_wp2_with fail
  go_cut [4] from 11 to 21 (fun p1 wc => ∃ gw, p1 = .pointer (some ⟨gw, 0, none⟩) ∧ Blk wc gw #[.int .i64 (1 + a0 % 40), .int .i64 (1 + a1 % 40), .string T] 25 ∧ w1.heap.size ≤ gw ∧ Below w1.heap.size w1 wc)
  case first =>
    have K0 := DK.out w1.drew HX1.drew
    have K0a := DK.out _ ((HX1.alloc HX1.size (.cells #[.int .i64 0, .int .i64 0, .string ⟨#[]⟩] 25)).drew)
    go_region_held3 (fun w' => w'.cell? ⟨g, 0, none⟩ = some (.int .i64 a0) ∧ w'.cell? ⟨g, 1, none⟩ = some (.int .i64 a1) ∧ w'.cell? ⟨g, 2, none⟩ = some (.int .i64 a2) ∧ w'.cell? ⟨g, 3, none⟩ = some (.int .i64 a3) ∧ w'.cell? ⟨g, 4, none⟩ = some (.int .i64 a4) ∧ w'.cell? ⟨g, 5, none⟩ = some (.int .i64 a5))
      (first | (with_reducible exact K0) | (with_reducible exact K0a) | (with_reducible exact K1) | (with_reducible exact K1a) | (with_reducible exact KS))
      (first
        | (go_at_call 19; refine (CG.out _).mono ?_; rintro e u1 ⟨rfl, hr1⟩; have hq1 : Below w1.heap.size w1 u1 := (show Below w1.heap.size w1 _ by go_grown).trans (hr1.mono (by simp)); have HQ1 : Below w1.heap.size w1 u1 := hq1; have HY1 := HX1.trans (HQ1.mono HX1.size); have K1 := DK.out _ HY1; have K1a := DK.out _ (HY1.alloc HY1.size (.cells #[.int .i64 0, .int .i64 0, .string ⟨#[]⟩] 25)); (first | (have Z1 : Blk u1 w1.heap.size #[.int .i64 0, .int .i64 0, .string ⟨#[]⟩] 25 := ((Blk.new w1 #[.int .i64 0, .int .i64 0, .string ⟨#[]⟩] 25).drew).below hr1 (by simp); have gz1 : w1.heap.size ≤ w1.heap.size := Nat.le_refl _) | skip); (first | (obtain ⟨⟨zx0, zx1, zx2⟩, zf0, zf1, zf2⟩ := Z1.three; have hSt := below_pic HY1 (Nat.le_trans HX1.size gz1) (.int .i64 (1 + a0 % 40)) (.int .i64 (1 + a1 % 40)) (.string T); have KS := DK.out _ hSt) | (have KS := DK.out _ (HY1.alloc HY1.size (.cells #[.int .i64 (1 + a0 % 40), .int .i64 (1 + a1 % 40), .string T] 25))))))
    all_goals
      go_wp2_with fail
      go_meet
      first
      | exact ⟨_, rfl, Z1.pic (.int .i64 (1 + a0 % 40)) (.int .i64 (1 + a1 % 40)) (.string T), gz1, below_pic HQ1 gz1 (.int .i64 (1 + a0 % 40)) (.int .i64 (1 + a1 % 40)) (.string T)⟩
      | exact ⟨_, rfl, Blk.new u1 _ _, HQ1.size, HQ1.alloc HQ1.size _⟩
  case rest =>
  revert hcut
  generalize wc = wx
  rintro ⟨gw, rfl, N5, g5, hbx⟩
  have NB : Hid (∀ w', Below wx.heap.size wx w' → (w'.cell? ⟨gw, 0, none⟩ = some (.int .i64 (1 + a0 % 40)) ∧ w'.cell? ⟨gw, 1, none⟩ = some (.int .i64 (1 + a1 % 40)) ∧ w'.cell? ⟨gw, 2, none⟩ = some (.string T)) ∧ w'.cell? ⟨g, 0, none⟩ = some (.int .i64 a0) ∧ w'.cell? ⟨g, 1, none⟩ = some (.int .i64 a1) ∧ w'.cell? ⟨g, 2, none⟩ = some (.int .i64 a2) ∧ w'.cell? ⟨g, 3, none⟩ = some (.int .i64 a3) ∧ w'.cell? ⟨g, 4, none⟩ = some (.int .i64 a4) ∧ w'.cell? ⟨g, 5, none⟩ = some (.int .i64 a5)) := fun w' h => ⟨(N5.below h N5.lt).three.1, DK.out _ (hbx.trans (h.mono hbx.size))⟩
  have gl2 : gw < wx.heap.size := N5.lt
  have gl3 : g < wx.heap.size := by have := hbx.size; omega
  have hb2 := hb1.trans (hbx.mono hb1.size)
  clear d0 d1 d2 d3 d4 d5 N5 hbx HX1 DK t0 t1 v0 v1 CG
  obtain ⟨⟨z0, z1, z2⟩, d0, d1, d2, d3, d4, d5⟩ := NB.out wx (Below.refl _ _)
  have t2 : Int.tmod a2 100 = a2 % 100 := Int.tmod_eq_emod_of_nonneg n2.1
  have t3 : Int.tmod a3 100 = a3 % 100 := Int.tmod_eq_emod_of_nonneg n3.1
  have v2 : IntKind.i64.wrap (a2 % 100 - 50) = a2 % 100 - 50 := IntWalk.i64_in _ ⟨by omega, by omega⟩
  have v3 : IntKind.i64.wrap (a3 % 100 - 50) = a3 % 100 - 50 := IntWalk.i64_in _ ⟨by omega, by omega⟩
  have K0 := NB.out wx.drew (Below.refl _ _).drew
  go_wp2_with fail
  go_region_held3 (fun w' => (w'.cell? ⟨gw, 0, none⟩ = some (.int .i64 (1 + a0 % 40)) ∧ w'.cell? ⟨gw, 1, none⟩ = some (.int .i64 (1 + a1 % 40)) ∧ w'.cell? ⟨gw, 2, none⟩ = some (.string T)) ∧ w'.cell? ⟨g, 0, none⟩ = some (.int .i64 a0) ∧ w'.cell? ⟨g, 1, none⟩ = some (.int .i64 a1) ∧ w'.cell? ⟨g, 2, none⟩ = some (.int .i64 a2) ∧ w'.cell? ⟨g, 3, none⟩ = some (.int .i64 a3) ∧ w'.cell? ⟨g, 4, none⟩ = some (.int .i64 a4) ∧ w'.cell? ⟨g, 5, none⟩ = some (.int .i64 a5))
    (first | with_reducible exact K0 | with_reducible exact NB.out _ hc2)
    (first | (go_at_call 20; refine (CB.out _).mono ?_; rintro e w2 ⟨⟨v, rfl, ho⟩, hr⟩; have hc2 : Below wx.heap.size wx w2 := (Below.refl wx.heap.size wx).drew.trans hr; have ho2 : w2.ownsRow wx.heap.size 3 1 v 64 ((List.replicate 64 (128 : Int)).map (Value.int .i64)) := ho; clear ho hr))
  obtain ⟨gb, cb, rfl, hgb, hlb⟩ := ho2.form (by omega)
  have HB : Hid (∀ w', Below w2.heap.size w2 w' → ∀ j, j < 64 → w'.cell? ⟨gb, j, none⟩ = some (.int .i64 128)) := fun w' hb j hj => (hb.cell (p := ⟨gb, j, none⟩) hlb).trans (by rw [ho2.cellAt j (by omega)]; exact rep_get 64 j 128 hj)
  have hb3 := hb2.trans (hc2.mono hb2.size)
  have NC : Hid (∀ w', Below w2.heap.size w2 w' →  (w'.cell? ⟨gw, 0, none⟩ = some (.int .i64 (1 + a0 % 40)) ∧ w'.cell? ⟨gw, 1, none⟩ = some (.int .i64 (1 + a1 % 40)) ∧ w'.cell? ⟨gw, 2, none⟩ = some (.string T)) ∧ w'.cell? ⟨g, 0, none⟩ = some (.int .i64 a0) ∧ w'.cell? ⟨g, 1, none⟩ = some (.int .i64 a1) ∧ w'.cell? ⟨g, 2, none⟩ = some (.int .i64 a2) ∧ w'.cell? ⟨g, 3, none⟩ = some (.int .i64 a3) ∧ w'.cell? ⟨g, 4, none⟩ = some (.int .i64 a4) ∧ w'.cell? ⟨g, 5, none⟩ = some (.int .i64 a5)) := fun w' h => NB.out w' (hc2.trans (h.mono hc2.size))
  clear d0 d1 d2 d3 d4 d5 z0 z1 z2 K0 NB CB ho2 t2 t3 v2 v3 hc2
  obtain ⟨⟨z0, z1, z2⟩, d0, d1, d2, d3, d4, d5⟩ := NC.out w2 (Below.refl _ _)
  have K0 := NC.out w2.drew (Below.refl _ _).drew
  have t0 : Int.tmod a0 40 = a0 % 40 := Int.tmod_eq_emod_of_nonneg n0.1
  have v0 : IntKind.i64.wrap (1 + a0 % 40) = 1 + a0 % 40 := IntWalk.i64_in _ ⟨by omega, by omega⟩
  have v4 : IntKind.i64.wrap (a4 - 5000) = a4 - 5000 := IntWalk.i64_in _ ⟨by omega, by omega⟩
  have v5 : IntKind.i64.wrap (a5 - 5000) = a5 - 5000 := IntWalk.i64_in _ ⟨by omega, by omega⟩
  go_wp2_with fail
  go_region_held3 (fun w' => (w'.cell? ⟨gw, 0, none⟩ = some (.int .i64 (1 + a0 % 40)) ∧ w'.cell? ⟨gw, 1, none⟩ = some (.int .i64 (1 + a1 % 40)) ∧ w'.cell? ⟨gw, 2, none⟩ = some (.string T)) ∧ w'.cell? ⟨g, 0, none⟩ = some (.int .i64 a0) ∧ w'.cell? ⟨g, 1, none⟩ = some (.int .i64 a1) ∧ w'.cell? ⟨g, 2, none⟩ = some (.int .i64 a2) ∧ w'.cell? ⟨g, 3, none⟩ = some (.int .i64 a3) ∧ w'.cell? ⟨g, 4, none⟩ = some (.int .i64 a4) ∧ w'.cell? ⟨g, 5, none⟩ = some (.int .i64 a5))
    (first | with_reducible exact K0 | with_reducible exact NC.out _ hc4 | with_reducible exact NC.out _ hc3)
    (first
      | (go_at_call 21; refine (CO.out _).mono ?_; rintro e w3 ⟨rfl, hr⟩; have hc3 : Below w2.heap.size w2 w3 := (Below.refl w2.heap.size w2).drew.trans hr; clear hr)
      | (go_at_call 17; refine (CD.out _).mono ?_; rintro e w4 ⟨rfl, hr⟩; have hc4 : Below w2.heap.size w2 w4 := hc3.trans (hr.mono hc3.size); clear hr))
  have hb4 := hb3.trans (hc4.mono hb3.size)
  have HB4 : Hid (∀ w', Below w4.heap.size w4 w' → ∀ j, j < 64 → w'.cell? ⟨gb, j, none⟩ = some (.int .i64 128)) := fun w' hb j hj => HB.out w' (hc4.trans (hb.mono hc4.size)) j hj
  clear d0 d1 d2 d3 d4 d5 z0 z1 z2 K0 NC CO CD HB t0 v0 v4 v5 hc4 hc3
  go_wp2
  go_loopw [6] (fun i wr => ∃ k : Nat, k ≤ 64 ∧ i = .int .i64 (k : Int) ∧ Below w4.heap.size w4 wr) (fun i _ => 64 - (intOf i).toNat)
  case atStart => exact ⟨0, by omega, rfl, Below.refl _ _⟩
  case round =>
    obtain ⟨k, hk, rfl, hbr⟩ := hrel
    have l0 : (0 : Int) ≤ (k : Int) := by omega
    by_cases hlt : k < 64
    · have l1 : (k : Int) < 64 := by omega
      have d := HB4.out wr hbr k hlt
      go_wp2
      go_roundw
      case rel => exact ⟨k + 1, by omega, by go_num, hbr⟩
      case measure => simp [intOf]; omega
    · obtain rfl : k = 64 := by omega
      go_wp2
      go_ret
      exact ⟨rfl, hb4.trans (hbr.mono hb4.size)⟩
end Go.Proofs.Ytpodpfdbklffgaa
