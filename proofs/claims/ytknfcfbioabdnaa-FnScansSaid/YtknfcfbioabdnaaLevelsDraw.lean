/-
  The walks of spec.l11Levels and spec.DrawLevels.
-/
import Derived.Test.YtknfcfbioabdnaaDrawLevels
import Derived.Deep.CutRange
namespace Go.Proofs.Ytknfcfbioabdnaa
open Go.RowKit
set_option linter.unusedVariables false
set_option maxRecDepth 20000

set_option maxHeartbeats 4000000 in
theorem levels_any (g : Nat) (a : Option Addr) (len B n : Nat) (w : World) (hc : CodeRow w B a len) (hB : B ≤ g) (hcur : CurAt w g a len) (hn0 : 16 ≤ n) (hn1 : n ≤ 64) :
    Calls Try.prog 35 #[.pointer (some ⟨g, 0, none⟩), .int .i64 (n : Int)] w fun e w' => e = .returned (.slice (some ⟨w.heap.size, 0, none⟩) n n) ∧ ∃ f, Drawn w w' g n a len f := by
  obtain ⟨i0, hi0, hz0, hz1, hz2⟩ := info_parts infoI
  have hgw := hcur.lt
  have n0 : (16 : Int) ≤ (n : Int) := by omega
  have n1 : (n : Int) ≤ 64 := by omega
  have hnp : (0 : Int) < (n : Int) := by omega
  have HG : Hid (g < w.heap.size) := hgw
  go_enter Try.func35, Try.ntmps35
  go_wp2_with (at_make; refine wpList_make_full _ (by rfl) _ _ 24 (by rfl) w.heap.size 3 i0 (.int .i64 0) 1 Try.underlying24 hi0 hz0 hz1 .i64 .i64 _ _ n (by rfl) (by rfl) (by rfl) (by rfl) (by rw [hz2]; omega) (by unfold maxLen; omega) (Nat.le_refl _) ?_; intro w1 hown0 hgrow0)
  rw [zero_made] at hown0
  have D0 : Drawn w w1 g n a len (fun _ => 0) := ⟨fun _ => by omega, hown0, hcur.kept hgrow0 (by simp), ⟨hgrow0.os, hgrow0.tape, hgrow0.output, hgrow0.size, fun k hk _ => hgrow0.block k hk (by simp)⟩⟩
  clear hown0 hgrow0
  go_loopw [6] (fun i wr => ∃ (k : Nat) (f : Nat → Int), k ≤ 7 ∧ i = .int .i64 (k : Int) ∧ Drawn w wr g n a len f) (fun i _ => 7 - (intOf i).toNat)
  case atStart => exact ⟨0, _, by omega, rfl, D0⟩
  case round =>
    obtain ⟨k, f, hk, rfl, hD⟩ := hrel
    clear D0
    have k0 : (0 : Int) ≤ (k : Int) := by omega
    have k7 : (k : Int) ≤ 7 := by omega
    have hsz := hD.size
    have hcr := hD.code hc hB hgw
    go_wp2_with fail
    refine (below_any g a len B 7 _ hcr hB hD.cur (by omega) (by omega)).mono ?_
    rintro e w2 ⟨x, rfl, hx0, hx1, hkp⟩
    have hD2 := hD.step hgw hkp
    clear hD hsz hcr hkp
    by_cases hlt : (k : Int) < x
    · have HD2 : Hid (Drawn w w2 g n a len f) := hD2
      have HC2 : Hid (CodeRow w2 B a len) := hD2.code hc hB hgw
      have HK : Hid (CurAt w2 g a len) := hD2.cur
      clear hD2
      go_wp2_with fail
      refine (below_any g a len B (n : Int) _ HC2.out hB HK.out (by omega) (by omega)).mono ?_
      rintro e w3 ⟨y, rfl, hy0, hy1, hkp⟩
      have hD3 := HD2.out.step hgw hkp
      clear hkp HD2 HC2 HK
      go_wp2_with fail
      refine (onceL g a len B 2 _ (hD3.code hc hB hgw) hB hD3.cur (by omega) (by omega)).mono ?_
      rintro e w4 ⟨b, rfl, hkp⟩
      have hD4 := hD3.step hgw hkp
      clear hkp hD3
      obtain ⟨y, rfl⟩ := Int.eq_ofNat_of_zero_le hy0
      go_upto_if 24 with fail
      go_cut [7] from 25 to 26 (fun v wc => ∃ z : Nat, v = .int .i64 (z : Int) ∧ (z : Int) < (n : Int) ∧ Hid (wc = w4))
      case first =>
        cases b
        · go_wp2_with fail
          go_meet
          exact ⟨y, rfl, hy1, rfl⟩
        · have e5 : (y : Int) % 5 = ((y % 5 : Nat) : Int) := by omega
          go_wp2_with fail
          go_meet
          exact ⟨y % 5, by rw [e5], by omega, rfl⟩
      case rest =>
      obtain ⟨z, rfl, hz, HW⟩ := hcut
      have hD4' : Drawn w wc g n a len f := by rw [HW.out]; exact hD4
      have z0 : (0 : Int) ≤ (z : Int) := by omega
      clear hD4 HW hy0 hy1
      generalize wc = w5 at *
      go_wp2_with fail
      refine (below_any g a len B 21 _ (hD4'.code hc hB hgw) hB hD4'.cur (by omega) (by omega)).mono ?_
      rintro e w6 ⟨q, rfl, hq0, hq1, hkp⟩
      have hD6 := hD4'.step hgw hkp
      obtain ⟨⟨c6, f6⟩, hD7⟩ := hD6.put (y := z) (x := q - 10) hgw (by omega) (by omega)
      have HD7 : Hid (Drawn w (w6.setCell ⟨w.heap.size, z, none⟩ (.int .i64 (q - 10))) g n a len (putF f z (q - 10))) := hD7
      clear hkp hD4' hD6 hD7
      go_wp2_with fail
      generalize w6.setCell ⟨w.heap.size, z, none⟩ (.int .i64 (q - 10)) = w7 at *
      clear c6 f6
      refine (onceL g a len B 6 _ (HD7.out.code hc hB hgw) hB HD7.out.cur (by omega) (by omega)).mono ?_
      rintro e w8 ⟨b2, rfl, hkp⟩
      have hD8 : Hid (Drawn w w8 g n a len (putF f z (q - 10))) := HD7.out.step hgw hkp
      clear hkp HD7
      cases b2
      · go_wp2
        go_roundw
        case rel => exact ⟨k + 1, _, by omega, by go_num, hD8.out⟩
        case measure => simp [intOf]; omega
      · go_wp2_with fail
        refine (below_any g a len B 10001 _ (hD8.out.code hc hB hgw) hB hD8.out.cur (by omega) (by omega)).mono ?_
        rintro e w9 ⟨r, rfl, hr0, hr1, hkp⟩
        have hD9 := hD8.out.step hgw hkp
        obtain ⟨⟨c9, f9⟩, hD10⟩ := hD9.put (y := z) (x := r - 5000) hgw (by omega) (by omega)
        have HD10 : Hid (Drawn w (w9.setCell ⟨w.heap.size, z, none⟩ (.int .i64 (r - 5000))) g n a len (putF (putF f z (q - 10)) z (r - 5000))) := hD10
        clear hkp hD8 hD9 hD10
        go_wp2
        go_roundw
        case rel => exact ⟨k + 1, _, by omega, by go_num, HD10.out⟩
        case measure => simp [intOf]; omega
    · have HD2 : Hid (Drawn w w2 g n a len f) := hD2
      clear hD2
      go_wp2
      go_ret
      exact ⟨rfl, f, HD2.out⟩

set_option maxHeartbeats 1600000 in
theorem drawLevels_any (a : Option Addr) (len cap B n : Nat) (w : World) (hc : CodeRow w B a len) (hB : B ≤ w.heap.size) (hn0 : 16 ≤ n) (hn1 : n ≤ 64) :
    Calls Try.prog 13 #[.slice a len cap, .int .i64 (n : Int)] w fun e w' => ∃ (g : Nat) (f : Nat → Int), e = .returned (.slice (some ⟨g, 0, none⟩) n n) ∧ (∀ j, -5000 ≤ f j ∧ f j ≤ 5000) ∧ w'.ownsRow w.heap.size 3 1 (.slice (some ⟨g, 0, none⟩) n n) n ((listF n f).map (Value.int .i64)) ∧ Below w.heap.size w w' := by
  go_enter Try.func13, Try.ntmps13
  go_wp2_with fail
  refine (new_cur a len cap B _ hc hB).mono ?_
  rintro e w1 ⟨rfl, hcur1, hb1⟩
  have hc1 := hc.below (hb1.mono hB)
  have hs1 := hb1.size
  go_wp2_with fail
  refine (levels_any w.heap.size a len B n w1 hc1 hB hcur1 hn0 hn1).mono ?_
  rintro e w2 ⟨rfl, f, hD⟩
  have hg := hcur1.lt
  go_wp2
  go_ret
  refine ⟨w1.heap.size, f, rfl, hD.bd, ⟨hD.own.1, ?_⟩, hb1.trans (below_of_grown hD.grew hs1 (fun k hk => by cases hk; exact Nat.le_refl _))⟩
  rcases hD.own.2 with ⟨h, _⟩ | ⟨g', c', cur, h1, h2, h3⟩
  · cases h
  · exact .inr ⟨g', c', cur, h1, Nat.le_trans hs1 h2, h3⟩
end Go.Proofs.Ytknfcfbioabdnaa
