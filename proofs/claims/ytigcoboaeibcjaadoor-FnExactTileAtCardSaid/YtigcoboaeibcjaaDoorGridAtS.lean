/-
  Which tile has a dot: the walk of spec.TileAt.
-/
import Derived.Test.YtigcoboaeibcjaaDoorGridAt
import Derived.Test.YtigcoboaeibcjaaDoorEqRect
namespace Go.Proofs.YtigcoboaeibcjaaDoor
open Go.RowKit
set_option linter.unusedVariables false
set_option maxRecDepth 20000

set_option maxHeartbeats 3200000 in
theorem specTileAt (l b : Int) (a1 a2 : Option Addr) (c1 c2 : Nat) (xs ys : List Int) (x y : Int) (w : World) (h : SetIn w a1 a2 xs ys) :
    Calls Tryd.prog 30 #[.agg #[.int .i64 l, .int .i64 b, .slice a1 xs.length c1, .slice a2 ys.length c2], .int .i64 x, .int .i64 y] w fun e w' => e = .returned (.int .i64 (atI l b xs ys x y)) ∧ Below w.heap.size w w' := by
  obtain ⟨N, hN, hN2⟩ : ∃ N : Nat, tilesI l b xs ys = (N : Int) ∧ ((N = 0 ∧ seqB l b xs ys = false) ∨ (seqB l b xs ys = true ∧ N = xs.length * ys.length)) := by
    cases hs : seqB l b xs ys with
    | false => exact ⟨0, tilesI_no hs, .inl ⟨rfl, rfl⟩⟩
    | true => exact ⟨xs.length * ys.length, by rw [tilesI_yes hs, Int.natCast_mul], .inr ⟨rfl, rfl⟩⟩
  have HT : Hid (∀ w', Below w.heap.size w w' → Calls Tryd.prog 27 #[.agg #[.int .i64 l, .int .i64 b, .slice a1 xs.length c1, .slice a2 ys.length c2]] w' (fun e w'' => e = .returned (.int .i64 (N : Int)) ∧ Below w'.heap.size w' w'')) := fun w' hb => by
    have := specTilesOf l b a1 a2 c1 c2 xs ys w' (h.below hb (Nat.le_refl _))
    rwa [hN] at this
  have HC : Hid (∀ w' t, Below w.heap.size w w' → Calls Tryd.prog 28 #[.agg #[.int .i64 l, .int .i64 b, .slice a1 xs.length c1, .slice a2 ys.length c2], .int .i64 t] w' (fun e w'' => e = .returned (.tuple #[rectV l b xs ys t, .bool (okT l b xs ys t)]) ∧ Below w'.heap.size w' w'')) := fun w' t hb => specTileRect l b a1 a2 c1 c2 xs ys t w' (h.below hb (Nat.le_refl _))
  have hN16 : (N : Int) ≤ 16 := by
    rcases hN2 with ⟨h0, _⟩ | ⟨hs, h0⟩
    · omega
    · obtain ⟨⟨_, _, k1⟩, ⟨_, _, k2⟩, _⟩ := seq_sides hs
      have := mul_le4 k1 k2; omega
  have HN2 : Hid ((N = 0 ∧ seqB l b xs ys = false) ∨ (seqB l b xs ys = true ∧ N = xs.length * ys.length)) := hN2
  clear h hN hN2
  go_enter Tryd.func30, Tryd.ntmps30
  go_wp2
  have R0 := Blk.new w #[.int .i64 l, .int .i64 b, .slice a1 xs.length c1, .slice a2 ys.length c2] 26
  have hb0 : Below w.heap.size w (w.alloc (.cells #[.int .i64 l, .int .i64 b, .slice a1 xs.length c1, .slice a2 ys.length c2] 26)) := (Below.refl _ _).alloc (Nat.le_refl _) _
  go_loopw [7] (fun i wr => ∃ k : Nat, k ≤ N ∧ i = .int .i64 k ∧ Hid (∀ t, t < k → hasB xs ys t x y = false) ∧ Blk wr w.heap.size #[.int .i64 l, .int .i64 b, .slice a1 xs.length c1, .slice a2 ys.length c2] 26 ∧ Below w.heap.size w wr)
    (fun i _ => N - (intOf i).toNat)
  case atStart => exact ⟨0, Nat.zero_le _, rfl, fun i hi => by omega, R0, hb0⟩
  case round =>
    obtain ⟨k, hk, rfl, HN, B, hb⟩ := hrel
    clear R0 hb0
    obtain ⟨y0, y1, y2, y3⟩ := B.four.1
    have l0 : (0 : Int) ≤ (k : Int) := by omega
    by_cases hlt : k < N
    · have hs : seqB l b xs ys = true ∧ N = xs.length * ys.length := by
        rcases HN2.out with ⟨h0, _⟩ | h
        · omega
        · exact h
      have l1 : (k : Int) < (N : Int) := by omega
      obtain ⟨⟨gx, nx0, nx1⟩, ⟨gy, ny0, ny1⟩, _⟩ := seq_sides hs.1
      have hkk : k < xs.length * ys.length := by rw [← hs.2]; exact hlt
      have ho := okT_of hs.1 hkk
      have hm : k % xs.length < xs.length := Nat.mod_lt _ (by omega)
      have hd : k / xs.length < ys.length := div_lt' hkk
      obtain ⟨s0, s1⟩ := sumT_bd xs (k % xs.length) (by omega) (fun i hi => gx i (by omega))
      obtain ⟨s2, s3⟩ := sumT_bd ys (k / xs.length) (by omega) (fun i hi => gy i (by omega))
      obtain ⟨g0, g1⟩ := gx _ hm
      obtain ⟨g2, g3⟩ := gy _ hd
      have HR : Hid (∀ w', Below w.heap.size w w' → Calls Tryd.prog 28 #[.agg #[.int .i64 l, .int .i64 b, .slice a1 xs.length c1, .slice a2 ys.length c2], .int .i64 (k : Int)] w' (fun e w'' => e = .returned (.tuple #[.agg #[.int .i64 (rL xs ys k), .int .i64 (rT xs ys k), .int .i64 (rW xs ys k), .int .i64 (rH xs ys k)], .bool true]) ∧ Below w'.heap.size w' w'')) := fun w' hb => by
        have := HC.out w' (k : Int) hb
        rwa [rectV_yes ho, ho] at this
      have v0 : 0 ≤ rL xs ys k ∧ rL xs ys k ≤ 1000 := by unfold rL; omega
      have v1 : 0 ≤ rT xs ys k ∧ rT xs ys k ≤ 1000 := by unfold rT; omega
      have v2 : 8 ≤ rW xs ys k ∧ rW xs ys k ≤ 64 := by unfold rW; omega
      have v3 : 8 ≤ rH xs ys k ∧ rH xs ys k ≤ 64 := by unfold rH; omega
      have E1 : Hid (inS xs (k % xs.length) x = (decide (rL xs ys k ≤ x) && decide (x ≤ rL xs ys k + rW xs ys k - 1))) := by
        show inS xs (k % xs.length) x = _
        unfold inS rL rW
        congr 1
        apply decide_eq_decide.2; omega
      have E2 : Hid (inS ys (k / xs.length) y = (decide (rT xs ys k ≤ y) && decide (y ≤ rT xs ys k + rH xs ys k - 1))) := by
        show inS ys (k / xs.length) y = _
        unfold inS rT rH
        congr 1
        apply decide_eq_decide.2; omega
      have HH : Hid (hasB xs ys k x y = (inS xs (k % xs.length) x && inS ys (k / xs.length) y)) := rfl
      have HI : Hid (hasB xs ys k x y = true → atI l b xs ys x y = (k : Int)) := fun h => atI_hit hs.1 hkk h
      clear hs gx gy ho hm hd s0 s1 s2 s3 g0 g1 g2 g3 nx0 nx1 ny0 ny1 hkk HC
      generalize rL xs ys k = vL at *
      generalize rT xs ys k = vT at *
      generalize rW xs ys k = vW at *
      generalize rH xs ys k = vH at *
      obtain ⟨v00, v01⟩ := v0
      obtain ⟨v10, v11⟩ := v1
      obtain ⟨v20, v21⟩ := v2
      obtain ⟨v30, v31⟩ := v3
      cases d1 : (decide (vL ≤ x) && decide (x ≤ vL + vW - 1)) with
      | false =>
        have HF : Hid (hasB xs ys k x y = false) := by show hasB xs ys k x y = false; rw [HH.out, E1.out, d1]; rfl
        go_wp2_with (first
          | (go_at_call 27; refine (HT.out _ hb).mono ?_; rintro e w1 ⟨rfl, hc1⟩; have B1 := B.below hc1 B.lt; obtain ⟨x0, x1, x2, x3⟩ := B1.four.1; have hb1 := hb.trans (hc1.mono hb.size))
          | (go_at_call 28; refine (HR.out _ hb1).mono ?_; rintro e w2 ⟨rfl, hc2⟩; have B2 := B1.below hc2 B1.lt; have hb2 := hb1.trans (hc2.mono hb1.size))
          | (go_at_call 52; refine (in_any _ _ _ _).mono ?_; rintro e w3 ⟨rfl, hw⟩; subst w3))
        have B3 := B2.alloc (.cells #[.int .i64 vL, .int .i64 vT, .int .i64 vW, .int .i64 vH] 41)
        have hb3 := hb2.alloc hb2.size (.cells #[.int .i64 vL, .int .i64 vT, .int .i64 vW, .int .i64 vH] 41)
        go_roundw
        case rel => exact ⟨k + 1, by omega, by go_num, fun i hi => by
          rcases Nat.lt_succ_iff_lt_or_eq.1 hi with h | rfl
          · exact HN.out i h
          · exact HF.out, B3, hb3⟩
        case measure => simp [intOf]; omega
      | true =>
        cases d2 : (decide (vT ≤ y) && decide (y ≤ vT + vH - 1)) with
        | false =>
          have HF : Hid (hasB xs ys k x y = false) := by show hasB xs ys k x y = false; rw [HH.out, E1.out, E2.out, d1, d2]; rfl
          go_wp2_with (first
            | (go_at_call 27; refine (HT.out _ hb).mono ?_; rintro e w1 ⟨rfl, hc1⟩; have B1 := B.below hc1 B.lt; obtain ⟨x0, x1, x2, x3⟩ := B1.four.1; have hb1 := hb.trans (hc1.mono hb.size))
            | (go_at_call 28; refine (HR.out _ hb1).mono ?_; rintro e w2 ⟨rfl, hc2⟩; have B2 := B1.below hc2 B1.lt; have hb2 := hb1.trans (hc2.mono hb1.size))
            | (go_at_call 52; refine (in_any _ _ _ _).mono ?_; rintro e w3 ⟨rfl, hw⟩; subst w3))
          have B3 := B2.alloc (.cells #[.int .i64 vL, .int .i64 vT, .int .i64 vW, .int .i64 vH] 41)
          have hb3 := hb2.alloc hb2.size (.cells #[.int .i64 vL, .int .i64 vT, .int .i64 vW, .int .i64 vH] 41)
          go_roundw
          case rel => exact ⟨k + 1, by omega, by go_num, fun i hi => by
            rcases Nat.lt_succ_iff_lt_or_eq.1 hi with h | rfl
            · exact HN.out i h
            · exact HF.out, B3, hb3⟩
          case measure => simp [intOf]; omega
        | true =>
          have HV : Hid (atI l b xs ys x y = (k : Int)) := HI.out (by rw [HH.out, E1.out, E2.out, d1, d2]; rfl)
          go_wp2_with (first
            | (go_at_call 27; refine (HT.out _ hb).mono ?_; rintro e w1 ⟨rfl, hc1⟩; have B1 := B.below hc1 B.lt; obtain ⟨x0, x1, x2, x3⟩ := B1.four.1; have hb1 := hb.trans (hc1.mono hb.size))
            | (go_at_call 28; refine (HR.out _ hb1).mono ?_; rintro e w2 ⟨rfl, hc2⟩; have B2 := B1.below hc2 B1.lt; have hb2 := hb1.trans (hc2.mono hb1.size))
            | (go_at_call 52; refine (in_any _ _ _ _).mono ?_; rintro e w3 ⟨rfl, hw⟩; subst w3))
          go_ret
          exact ⟨by rw [HV.out]; rfl, hb2.alloc hb2.size _⟩
    · obtain rfl : k = N := by omega
      have HV : Hid (atI l b xs ys x y = -1) := by
        rcases HN2.out with ⟨_, h⟩ | ⟨_, h⟩
        · exact atI_no h
        · exact atI_none (fun t ht => HN.out t (by rw [h]; exact ht))
      clear HC
      go_wp2_with (go_at_call 27; refine (HT.out _ hb).mono ?_; rintro e w1 ⟨rfl, hc1⟩)
      go_ret
      exact ⟨by rw [HV.out]; rfl, hb.trans (hc1.mono hb.size)⟩
end Go.Proofs.YtigcoboaeibcjaaDoor
