/-
  What stands beside a square, the model's: the walk of spec.EdgesOf.
-/
import Derived.Test.YthmcedfkfoagdaaEdgesOfKit
namespace Go.Proofs.Ythmcedfkfoagdaa
open Go.RowKit
set_option linter.unusedVariables false
set_option maxRecDepth 20000

set_option maxHeartbeats 3200000 in
theorem specEdgesOf (W H : Int) (s : ByteArray) (x y : Int) (w : World) :
    Calls Try.prog 21 #[picV W H s, .int .i64 x, .int .i64 y] w fun e w' => (∃ v1 v2 ge, e = .returned (.tuple #[.agg #[v1, v2, .int .i64 (edgC W H s x y)], .bool (fitsB W H s x y)]) ∧ EdgRows w' w.heap.size ge v1 v2 (edgA W H s x y) (edgL W H s x y)) ∧ Below w.heap.size w w' := by
  obtain ⟨i0, hi0, hz0, hz1, hz2⟩ := info_parts infoI
  have CF : Hid (∀ w', Calls Try.prog 51 #[picV W H s, .int .i64 x, .int .i64 y] w' (fun e w'' => e = .returned (.bool (fitsB W H s x y)) ∧ Below w'.heap.size w' w'')) := fun w' => fits_any W H s x y w'
  have CD : Hid (fitsB W H s x y = true → ∀ (a b : Int) w', Calls Try.prog 52 #[picV W H s, .int .i64 a, .int .i64 b] w' (fun e w'' => e = .returned (.int .i64 (dotF W H s a b)) ∧ Below w'.heap.size w' w'')) := fun h a b w' => by
    have := specDotAt W H s a b w'
    unfold dotO at this
    rw [if_pos (fitsB_iff.1 h).1] at this
    exact this
  have HNo : Hid (fitsB W H s x y = false → edgA W H s x y = [] ∧ edgL W H s x y = [] ∧ edgC W H s x y = 0) := fun h => edg_no h
  have HY : Hid (fitsB W H s x y = true → edgA W H s x y = aboveK W H s x y 8 ∧ edgL W H s x y = leftK W H s x y 8 ∧ edgC W H s x y = cornerK W H s x y) := fun h => edg_yes h
  have HP : Hid (fitsB W H s x y = true → ((1 ≤ W ∧ W ≤ 256) ∧ (1 ≤ H ∧ H ≤ 256)) ∧ (0 ≤ x ∧ (1 : Int) ≤ 8 ∧ x ≤ W - 8) ∧ (0 ≤ y ∧ (1 : Int) ≤ 8 ∧ y ≤ H - 8)) := fun h => by
    obtain ⟨h1, _, _, h2⟩ := fitsB_iff.1 h
    exact ⟨⟨(picB_iff.1 h1).1, (picB_iff.1 h1).2.1⟩, inRB_iff.1 h2⟩
  generalize edgA W H s x y = EA at *
  generalize edgL W H s x y = EL at *
  generalize edgC W H s x y = EC at *
  generalize fitsB W H s x y = F at *
  go_enter Try.func21, Try.ntmps21
  go_wp2_with fail
  generalize hV : World.alloc (World.alloc w _) _ = X
  have A0 : Blk X w.heap.size #[.int .i64 W, .int .i64 H, .string s] 40 := by rw [← hV]; exact (Blk.new w _ _).alloc _
  have A1 : Blk X (w.heap.size + 1) #[.slice none 0 0, .slice none 0 0, .int .i64 0] 26 := by rw [← hV]; exact Blk.new' _ _ (by simp)
  have hb0 : Below w.heap.size w X := by rw [← hV]; exact ((Below.refl _ _).alloc (Nat.le_refl _) _).alloc (by simp) _
  have hlt : w.heap.size + 1 < X.heap.size := A1.lt
  clear hV
  have BK : Hid (∀ w', Below X.heap.size X w' → (w'.cell? ⟨w.heap.size, 0, none⟩ = some (.int .i64 W) ∧ w'.cell? ⟨w.heap.size, 1, none⟩ = some (.int .i64 H) ∧ w'.cell? ⟨w.heap.size, 2, none⟩ = some (.string s)) ∧ Blk w' (w.heap.size + 1) #[.slice none 0 0, .slice none 0 0, .int .i64 0] 26) :=
    fun w' h => ⟨(A0.below h A0.lt).three.1, A1.below h A1.lt⟩
  clear A0 A1
  refine (CF.out X).mono ?_
  rintro e w2 ⟨rfl, hc2⟩
  obtain ⟨⟨x0, x1, x2⟩, K1⟩ := BK.out w2 hc2
  have hb2 := hb0.trans (hc2.mono hb0.size)
  cases F with
  | false =>
    have HFv : Hid (false = false) := rfl
    obtain ⟨⟨z0, z1, z2⟩, f0, f1, f2⟩ := K1.three
    have KR : Hid (Blk _ _ _ _) := ((K1.set 0 (.slice none 0 0) (by simp)).set 1 (.slice none 0 0) (by simp)).set 2 (.int .i64 0) (by simp)
    have hbr := ((hb2.setCell (p := ⟨w.heap.size + 1, 0, none⟩) (by simp) (.slice none 0 0)).setCell (p := ⟨w.heap.size + 1, 1, none⟩) (by simp) (.slice none 0 0)).setCell (p := ⟨w.heap.size + 1, 2, none⟩) (by simp) (.int .i64 0)
    obtain ⟨hn1, hn2, hn3⟩ := HNo.out HFv.out
    go_wp2
    (try simp only [Exit.inBlock, Exit.then])
    refine bodyPost_ret (results_cell_and rfl _ _ (w.heap.size + 1) 26 _ (0, 0) _ rfl KR.out Try.underlying26 rfl (by kernel_rfl)) rfl ?_
    exact ⟨⟨_, _, 0, by rw [hn1, hn2, hn3]; exact ⟨rfl, edgRows_none _ _ _⟩⟩, hbr⟩
  | true =>
    obtain ⟨⟨p1, p2⟩, ⟨i1, _, i2⟩, j1, _, j2⟩ := HP.out (by trivial)
    obtain ⟨hn1, hn2, hn3⟩ := HY.out (by trivial)
    have HN : Hid (EA = aboveK W H s x y 8 ∧ EL = leftK W H s x y 8 ∧ EC = cornerK W H s x y) := ⟨hn1, hn2, hn3⟩
    have HFv : Hid (true = true) := rfl
    have CD2 : Hid (∀ (a b : Int) w', Calls Try.prog 52 #[picV W H s, .int .i64 a, .int .i64 b] w' (fun e w'' => e = .returned (.int .i64 (dotF W H s a b)) ∧ Below w'.heap.size w' w'')) := CD.out (by trivial)
    have hsz2 := hc2.size
    clear HP CD HNo HY CF hn1 hn2 hn3 x0 x1 x2 K1
    have PK : Hid (∀ w', Below X.heap.size X w' → (w'.cell? ⟨w.heap.size, 0, none⟩ = some (.int .i64 W) ∧ w'.cell? ⟨w.heap.size, 1, none⟩ = some (.int .i64 H) ∧ w'.cell? ⟨w.heap.size, 2, none⟩ = some (.string s))) := fun w' h => (BK.out w' h).1
    have hwl : w.heap.size + 1 < w2.heap.size := by omega
    have bY := Blk.new w2 #[.slice none 0 0, .slice none 0 0, .int .i64 (-1)] 26
    have hbY := (Below.refl w2.heap.size w2).alloc (Nat.le_refl _) (.cells #[.slice none 0 0, .slice none 0 0, .int .i64 (-1)] 26)
    have RY := edgRows_none (w2.alloc (.cells #[.slice none 0 0, .slice none 0 0, .int .i64 (-1)] 26)) w2.heap.size w2.heap.size
    go_wp2
    generalize World.alloc w2 _ = Y at *
    generalize hB : w2.heap.size = B at *
    go_loopw [9] (fun i wr => ∃ (k : Nat) (v1 v2 : Value), k ≤ 8 ∧ i = .int .i64 (k : Int) ∧ Blk wr B #[v1, v2, .int .i64 (-1)] 26 ∧ EdgRows wr B B v1 v2 (aboveK W H s x y k) (leftK W H s x y k) ∧ Below B w2 wr) (fun i _ => 8 - (intOf i).toNat)
    case atStart => exact ⟨0, _, _, by omega, rfl, bY, by rw [aboveK_zero, leftK_zero]; exact RY, hbY⟩
    case round =>
      clear bY RY hbY
      obtain ⟨k, v1, v2, hk, rfl, b, hR, hbk⟩ := hrel
      obtain ⟨A0, hA0⟩ : ∃ A0, A0 = aboveK W H s x y k := ⟨_, rfl⟩
      obtain ⟨L0, hL0⟩ : ∃ L0, L0 = leftK W H s x y k := ⟨_, rfl⟩
      rw [← hA0, ← hL0] at hR
      have HA0 : Hid (aboveK W H s x y k = A0) := hA0.symm
      have HL0 : Hid (leftK W H s x y k = L0) := hL0.symm
      have nA : A0.length ≤ 8 := by rw [hA0]; exact Nat.le_trans (aboveK_len W H s x y k) hk
      have nL : L0.length ≤ 8 := by rw [hL0]; exact Nat.le_trans (leftK_len W H s x y k) hk
      clear hA0 hL0
      have hbs := hbk.size
      have hcr := hc2.trans (hbk.mono hsz2)
      obtain ⟨x0, x1, x2⟩ := PK.out wr hcr
      have hgb := b.lt
      by_cases hlk : k < 8
      · have l0 : (0 : Int) ≤ (k : Int) := by omega
        have l1 : (k : Int) < 8 := by omega
        by_cases gy : 0 < y
        · obtain ⟨D1, hD1⟩ : ∃ D1, D1 = aboveF W H s x y k := ⟨_, rfl⟩
          have HA2 : Hid (aboveK W H s x y (k + 1) = A0 ++ [D1]) := by show _ = _; rw [aboveK_succ gy, HA0.out, hD1]
          have CDa : Hid (∀ w', Calls Try.prog 52 #[picV W H s, .int .i64 (x + (k : Int)), .int .i64 (y - 1)] w' (fun e w'' => e = .returned (.int .i64 D1) ∧ Below w'.heap.size w' w'')) := fun w' => by rw [hD1]; exact CD2.out _ _ w'
          have hw1 : IntKind.i64.wrap (x + (k : Int)) = x + (k : Int) := IntWalk.i64_in _ ⟨by omega, by omega⟩
          have hw2 : IntKind.i64.wrap (y - 1) = y - 1 := IntWalk.i64_in _ ⟨by omega, by omega⟩
          have gy' : y > 0 := gy
          clear hD1
          obtain ⟨⟨e0, e1, e2⟩, f0, f1, f2⟩ := b.three
          go_wp2_with fail
          go_cut [9] from 23 to 34 (fun p wc => p = .int .i64 (k : Int) ∧ ∃ v', wr.heap.size ≤ wc.heap.size ∧ Blk wc B #[v', v2, .int .i64 (-1)] 26 ∧ EdgRows wc B B v' v2 (A0 ++ [D1]) L0 ∧ Below B w2 wc)
          case first =>
            go_region_law (first
              | (refine step_append_lies _ (by rfl) _ _ _ (by rfl) B 3 i0 (.int .i64 0) 1 8 Try.underlying24 hi0 hz0 hz1 hz2 rfl (by omega) v1 A0.length _ (by rfl) (R5.one.alloc _) ⟨w5.heap.size, 0, none⟩ 1 1 [.int .i64 D1] (by rfl) (by rfl) (World.news_of_block (cs := #[.int .i64 D1]) (t := 3) (fr := (0, 0)) (heap_alloc_new w5 _)) (by simp [Value.oneCell']) (by omega) (by unfold maxLen; omega) (by omega) (by simp; omega) (w5.heap.size + 1) (by simp) ?_; intro gg cp w6 hown6 hgrow hat hlt6; have B6 := (B5.alloc (.cells #[.int .i64 D1] 3)).grew hgrow (fun e => hR.away1 e.symm); obtain ⟨⟨q60, q61, q62⟩, r60, r61, r62⟩ := B6.three)
              | (go_simp; go_at_call 52; refine (CDa.out _).mono ?_; rintro e w5 ⟨rfl, hr⟩; have hc5 : Below wr.heap.size wr w5 := (Below.refl wr.heap.size wr).drew.trans hr; have B5 := b.below hc5 b.lt; have R5 := hR.below hc5; obtain ⟨⟨e50, e51, e52⟩, f50, f51, f52⟩ := B5.three; have hs5 := hc5.size; obtain ⟨⟨e5a0, e5a1, e5a2⟩, _⟩ := (B5.alloc (.cells #[.int .i64 D1] 3)).three; clear hr))
            all_goals
              have hge5 : B < w5.heap.size := B5.lt
              have R6 := (R5.below ((Below.refl w5.heap.size w5).alloc (Nat.le_refl _) (.cells #[.int .i64 D1] 3))).add1 (by simp; omega) hown6 hgrow (by simpa using hat)
              have R7 := R6.grew (World.grown_at w6 B 0 (.slice (some ⟨gg, 0, none⟩) (A0.length + 1) cp))
              have B7 : Hid (Blk _ _ _ _) := B6.set 0 (.slice (some ⟨gg, 0, none⟩) (A0.length + 1) cp) (by simp)
              have hb5 := hbk.trans (hc5.mono (by omega))
              have hb6 := ((hb5.alloc (by omega) (.cells #[.int .i64 D1] 3)).grown hgrow (by simp; omega) (fun j hj => (R5.one.lt j hj).1)).setCell (p := ⟨B, 0, none⟩) (by first | exact Nat.le_refl _ | (simp; omega)) (.slice (some ⟨gg, 0, none⟩) (A0.length + 1) cp)
              have hz7 : wr.heap.size ≤ w6.heap.size := by have := hgrow.size; simp at this; omega
              clear q60 q61 q62 r60 r61 r62 hgrow hat B6 R6
              go_wp2_with fail
              go_meet
              exact ⟨rfl, _, by simpa using hz7, B7.out, R7, hb6⟩
          case rest =>
            revert hcut
            generalize wc = wx
            intro hcut
            obtain ⟨rfl, v1', hz1', b1, hR1, hb1'⟩ := hcut
            clear b hR e0 e1 e2 f0 f1 f2 x0 x1 x2
            have hcr1 := hc2.trans (hb1'.mono hsz2)
            obtain ⟨x0, x1, x2⟩ := PK.out wx hcr1
            have hbs1 := hb1'.size
            by_cases gx : 0 < x
            · obtain ⟨D2, hD2⟩ : ∃ D2, D2 = leftF W H s x y k := ⟨_, rfl⟩
              have HL2 : Hid (leftK W H s x y (k + 1) = L0 ++ [D2]) := by show _ = _; rw [leftK_succ gx, HL0.out, hD2]
              have CD3 : Hid (∀ w', Calls Try.prog 52 #[picV W H s, .int .i64 (x - 1), .int .i64 (y + (k : Int))] w' (fun e w'' => e = .returned (.int .i64 D2) ∧ Below w'.heap.size w' w'')) := fun w' => by rw [hD2]; exact CD2.out _ _ w'
              have hw3 : IntKind.i64.wrap (x - 1) = x - 1 := IntWalk.i64_in _ ⟨by omega, by omega⟩
              have hw4 : IntKind.i64.wrap (y + (k : Int)) = y + (k : Int) := IntWalk.i64_in _ ⟨by omega, by omega⟩
              have gx' : x > 0 := gx
              clear hD2
              obtain ⟨⟨e0, e1, e2⟩, f0, f1, f2⟩ := b1.three
              go_wp2_with fail
              go_region_law (first
                | (refine step_append_lies _ (by rfl) _ _ _ (by rfl) B 3 i0 (.int .i64 0) 1 8 Try.underlying24 hi0 hz0 hz1 hz2 rfl (by omega) v2 L0.length _ (by rfl) (R5.two.alloc _) ⟨w5.heap.size, 0, none⟩ 1 1 [.int .i64 D2] (by rfl) (by rfl) (World.news_of_block (cs := #[.int .i64 D2]) (t := 3) (fr := (0, 0)) (heap_alloc_new w5 _)) (by simp [Value.oneCell']) (by omega) (by unfold maxLen; omega) (by omega) (by simp; omega) (w5.heap.size + 1) (by simp) ?_; intro gg cp w6 hown6 hgrow hat hlt6; have B6 := (B5.alloc (.cells #[.int .i64 D2] 3)).grew hgrow (fun e => hR1.away2 e.symm); obtain ⟨⟨q60, q61, q62⟩, r60, r61, r62⟩ := B6.three)
                | (go_simp; go_at_call 52; refine (CD3.out _).mono ?_; rintro e w5 ⟨rfl, hr⟩; have hc5 : Below wx.heap.size wx w5 := (Below.refl wx.heap.size wx).drew.trans hr; have B5 := b1.below hc5 b1.lt; have R5 := hR1.below hc5; obtain ⟨⟨e50, e51, e52⟩, f50, f51, f52⟩ := B5.three; have hs5 := hc5.size; obtain ⟨⟨e5a0, e5a1, e5a2⟩, _⟩ := (B5.alloc (.cells #[.int .i64 D2] 3)).three; clear hr))
              all_goals
                have hge5 : B < w5.heap.size := B5.lt
                have R6 := (R5.below ((Below.refl w5.heap.size w5).alloc (Nat.le_refl _) (.cells #[.int .i64 D2] 3))).add2 (by simp; omega) hown6 hgrow (by simpa using hat)
                have R7 := R6.grew (World.grown_at w6 B 1 (.slice (some ⟨gg, 0, none⟩) (L0.length + 1) cp))
                have B7 : Hid (Blk _ _ _ _) := B6.set 1 (.slice (some ⟨gg, 0, none⟩) (L0.length + 1) cp) (by simp)
                have hb5 := hb1'.trans (hc5.mono (by omega))
                have hb6 := ((hb5.alloc (by omega) (.cells #[.int .i64 D2] 3)).grown hgrow (by simp; omega) (fun j hj => (R5.two.lt j hj).1)).setCell (p := ⟨B, 1, none⟩) (by first | exact Nat.le_refl _ | (simp; omega)) (.slice (some ⟨gg, 0, none⟩) (L0.length + 1) cp)
                have hz7 : wx.heap.size ≤ w6.heap.size := by have := hgrow.size; simp at this; omega
                clear q60 q61 q62 r60 r61 r62 hgrow hat B6 R6
                go_wp2
                refine ⟨⟨k + 1, v1', _, by omega, by go_num, B7.out, by rw [HA2.out, HL2.out]; exact R7, hb6⟩, ?_⟩
                simp [intOf]; omega
            · have HL2 : Hid (leftK W H s x y (k + 1) = L0) := by show _ = _; rw [leftK_no gx]; have := HL0.out; rw [leftK_no gx] at this; exact this
              go_wp2
              refine ⟨⟨k + 1, v1', v2, by omega, by go_num, b1, by rw [HA2.out, HL2.out]; exact hR1, hb1'⟩, ?_⟩
              simp [intOf]; omega
        · have HA2 : Hid (aboveK W H s x y (k + 1) = A0) := by show _ = _; rw [aboveK_no gy]; have := HA0.out; rw [aboveK_no gy] at this; exact this
          by_cases gx : 0 < x
          · obtain ⟨D2, hD2⟩ : ∃ D2, D2 = leftF W H s x y k := ⟨_, rfl⟩
            have HL2 : Hid (leftK W H s x y (k + 1) = L0 ++ [D2]) := by show _ = _; rw [leftK_succ gx, HL0.out, hD2]
            have CD3 : Hid (∀ w', Calls Try.prog 52 #[picV W H s, .int .i64 (x - 1), .int .i64 (y + (k : Int))] w' (fun e w'' => e = .returned (.int .i64 D2) ∧ Below w'.heap.size w' w'')) := fun w' => by rw [hD2]; exact CD2.out _ _ w'
            have hw3 : IntKind.i64.wrap (x - 1) = x - 1 := IntWalk.i64_in _ ⟨by omega, by omega⟩
            have hw4 : IntKind.i64.wrap (y + (k : Int)) = y + (k : Int) := IntWalk.i64_in _ ⟨by omega, by omega⟩
            have gx' : x > 0 := gx
            clear hD2
            obtain ⟨⟨e0, e1, e2⟩, f0, f1, f2⟩ := b.three
            go_wp2_with fail
            go_region_law (first
              | (refine step_append_lies _ (by rfl) _ _ _ (by rfl) B 3 i0 (.int .i64 0) 1 8 Try.underlying24 hi0 hz0 hz1 hz2 rfl (by omega) v2 L0.length _ (by rfl) (R5.two.alloc _) ⟨w5.heap.size, 0, none⟩ 1 1 [.int .i64 D2] (by rfl) (by rfl) (World.news_of_block (cs := #[.int .i64 D2]) (t := 3) (fr := (0, 0)) (heap_alloc_new w5 _)) (by simp [Value.oneCell']) (by omega) (by unfold maxLen; omega) (by omega) (by simp; omega) (w5.heap.size + 1) (by simp) ?_; intro gg cp w6 hown6 hgrow hat hlt6; have B6 := (B5.alloc (.cells #[.int .i64 D2] 3)).grew hgrow (fun e => hR.away2 e.symm); obtain ⟨⟨q60, q61, q62⟩, r60, r61, r62⟩ := B6.three)
              | (go_simp; go_at_call 52; refine (CD3.out _).mono ?_; rintro e w5 ⟨rfl, hr⟩; have hc5 : Below wr.heap.size wr w5 := (Below.refl wr.heap.size wr).drew.trans hr; have B5 := b.below hc5 b.lt; have R5 := hR.below hc5; obtain ⟨⟨e50, e51, e52⟩, f50, f51, f52⟩ := B5.three; have hs5 := hc5.size; obtain ⟨⟨e5a0, e5a1, e5a2⟩, _⟩ := (B5.alloc (.cells #[.int .i64 D2] 3)).three; clear hr))
            all_goals
              have hge5 : B < w5.heap.size := B5.lt
              have R6 := (R5.below ((Below.refl w5.heap.size w5).alloc (Nat.le_refl _) (.cells #[.int .i64 D2] 3))).add2 (by simp; omega) hown6 hgrow (by simpa using hat)
              have R7 := R6.grew (World.grown_at w6 B 1 (.slice (some ⟨gg, 0, none⟩) (L0.length + 1) cp))
              have B7 : Hid (Blk _ _ _ _) := B6.set 1 (.slice (some ⟨gg, 0, none⟩) (L0.length + 1) cp) (by simp)
              have hb5 := hbk.trans (hc5.mono (by omega))
              have hb6 := ((hb5.alloc (by omega) (.cells #[.int .i64 D2] 3)).grown hgrow (by simp; omega) (fun j hj => (R5.two.lt j hj).1)).setCell (p := ⟨B, 1, none⟩) (by first | exact Nat.le_refl _ | (simp; omega)) (.slice (some ⟨gg, 0, none⟩) (L0.length + 1) cp)
              have hz7 : wr.heap.size ≤ w6.heap.size := by have := hgrow.size; simp at this; omega
              clear q60 q61 q62 r60 r61 r62 hgrow hat B6 R6
              go_wp2
              refine ⟨⟨k + 1, v1, _, by omega, by go_num, B7.out, by rw [HA2.out, HL2.out]; exact R7, hb6⟩, ?_⟩
              simp [intOf]; omega
          · have HL2 : Hid (leftK W H s x y (k + 1) = L0) := by show _ = _; rw [leftK_no gx]; have := HL0.out; rw [leftK_no gx] at this; exact this
            go_wp2
            refine ⟨⟨k + 1, v1, v2, by omega, by go_num, b, by rw [HA2.out, HL2.out]; exact hR, hbk⟩, ?_⟩
            simp [intOf]; omega
      · obtain rfl : k = 8 := by omega
        have KW := (BK.out wr hcr).2
        obtain ⟨av1, an1, ac1, rfl⟩ := own_form hR.one
        obtain ⟨av2, an2, ac2, rfl⟩ := own_form hR.two
        have hbw := hb2.trans (hbk.mono (by omega))
        obtain ⟨⟨e0, e1, e2⟩, f0, f1, f2⟩ := b.three
        have hlow : w.heap.size + 1 < B := by omega
        by_cases gx : 0 < x
        · have gx' : x > 0 := gx
          by_cases gy : 0 < y
          · have gy' : y > 0 := gy
            obtain ⟨D, hD⟩ : ∃ D, D = dotF W H s (x - 1) (y - 1) := ⟨_, rfl⟩
            have HE : Hid (EC = D) := by show _ = _; rw [HN.out.2.2, hD]; unfold cornerK; rw [if_pos ⟨gx, gy⟩]
            have CDc : Hid (∀ w', Calls Try.prog 52 #[picV W H s, .int .i64 (x - 1), .int .i64 (y - 1)] w' (fun e w'' => e = .returned (.int .i64 D) ∧ Below w'.heap.size w' w'')) := fun w' => by rw [hD]; exact CD2.out _ _ w'
            clear hD
            have hwq : wr.heap.size ≥ B := by omega
            go_wp2_with fail
            refine (CDc.out wr).mono ?_
            rintro e w5 ⟨rfl, hr⟩
            have B5 := b.below hr b.lt
            have R5 := hR.below hr
            have K5 := KW.below hr KW.lt
            have hb5 := hbw.trans (hr.mono hbw.size)
            have hgl := B5.lt
            clear hr b hR KW hbw e0 e1 e2 f0 f1 f2
            obtain ⟨⟨e0, e1, e2⟩, f0, f1, f2⟩ := B5.three
            obtain ⟨⟨u0, u1, u2⟩, uf0, uf1, uf2⟩ := K5.three
            have B6 := B5.set 2 (.int .i64 D) (by simp)
            have R6 := R5.grew (World.grown_at w5 B 2 (.int .i64 D))
            have K6 := K5.other ⟨B, 2, none⟩ (.int .i64 D) (by simp; omega)
            have hb6 := hb5.setCell (p := ⟨B, 2, none⟩) (by first | exact Nat.le_refl _ | (simp; omega)) (.int .i64 D)
            clear B5 R5 K5 hb5
            obtain ⟨⟨z0, z1, z2⟩, zf0, zf1, zf2⟩ := K6.three
            have KR : Hid (Blk _ _ _ _) := ((K6.set 0 (.slice av1 an1 ac1) (by simp)).set 1 (.slice av2 an2 ac2) (by simp)).set 2 (.int .i64 D) (by simp)
            have RR : Hid (EdgRows _ _ _ _ _ _ _) := ((R6.low (World.grown_at _ (w.heap.size + 1) 0 (.slice av1 an1 ac1)) (by omega)).low (World.grown_at _ (w.heap.size + 1) 1 (.slice av2 an2 ac2)) (by omega)).low (World.grown_at _ (w.heap.size + 1) 2 (.int .i64 D)) (by omega)
            have hbr := ((hb6.setCell (p := ⟨w.heap.size + 1, 0, none⟩) (by simp) (.slice av1 an1 ac1)).setCell (p := ⟨w.heap.size + 1, 1, none⟩) (by simp) (.slice av2 an2 ac2)).setCell (p := ⟨w.heap.size + 1, 2, none⟩) (by simp) (.int .i64 D)
            clear B6 R6 K6
            go_wp2
            (try simp only [Exit.inBlock, Exit.then])
            refine bodyPost_ret (results_cell_and rfl _ _ (w.heap.size + 1) 26 _ (0, 0) _ rfl KR.out Try.underlying26 rfl (by kernel_rfl)) rfl ?_
            have hE1 : (Ending.returned (.tuple #[.agg #[.slice av1 an1 ac1, .slice av2 an2 ac2, .int .i64 D], .bool true]) : Ending) = .returned (.tuple #[.agg #[.slice av1 an1 ac1, .slice av2 an2 ac2, .int .i64 EC], .bool true]) := by rw [HE.out]
            have hE2 := RR.out.mono (B' := w.heap.size) (by omega)
            rw [← HA0.out, ← HL0.out, ← HN.out.1, ← HN.out.2.1] at hE2
            first
            | exact ⟨⟨.slice av1 an1 ac1, .slice av2 an2 ac2, B, hE1, hE2⟩, hbr⟩
            | exact ⟨⟨.slice av1 an1 ac1, .slice av2 an2 ac2, hE1, B, hE2⟩, hbr⟩
          · have gy' : ¬ y > 0 := gy
            have HE : Hid (EC = -1) := by show _ = _; rw [HN.out.2.2]; unfold cornerK; rw [if_neg (by omega)]
            obtain ⟨⟨z0, z1, z2⟩, zf0, zf1, zf2⟩ := KW.three
            have KR : Hid (Blk _ _ _ _) := ((KW.set 0 (.slice av1 an1 ac1) (by simp)).set 1 (.slice av2 an2 ac2) (by simp)).set 2 (.int .i64 (-1)) (by simp)
            have RR : Hid (EdgRows _ _ _ _ _ _ _) := ((hR.low (World.grown_at wr (w.heap.size + 1) 0 (.slice av1 an1 ac1)) (by omega)).low (World.grown_at _ (w.heap.size + 1) 1 (.slice av2 an2 ac2)) (by omega)).low (World.grown_at _ (w.heap.size + 1) 2 (.int .i64 (-1))) (by omega)
            have hbr := ((hbw.setCell (p := ⟨w.heap.size + 1, 0, none⟩) (by simp) (.slice av1 an1 ac1)).setCell (p := ⟨w.heap.size + 1, 1, none⟩) (by simp) (.slice av2 an2 ac2)).setCell (p := ⟨w.heap.size + 1, 2, none⟩) (by simp) (.int .i64 (-1))
            clear b hR KW
            go_wp2
            (try simp only [Exit.inBlock, Exit.then])
            refine bodyPost_ret (results_cell_and rfl _ _ (w.heap.size + 1) 26 _ (0, 0) _ rfl KR.out Try.underlying26 rfl (by kernel_rfl)) rfl ?_
            have hE1 : (Ending.returned (.tuple #[.agg #[.slice av1 an1 ac1, .slice av2 an2 ac2, .int .i64 (-1)], .bool true]) : Ending) = .returned (.tuple #[.agg #[.slice av1 an1 ac1, .slice av2 an2 ac2, .int .i64 EC], .bool true]) := by rw [HE.out]
            have hE2 := RR.out.mono (B' := w.heap.size) (by omega)
            rw [← HA0.out, ← HL0.out, ← HN.out.1, ← HN.out.2.1] at hE2
            first
            | exact ⟨⟨.slice av1 an1 ac1, .slice av2 an2 ac2, B, hE1, hE2⟩, hbr⟩
            | exact ⟨⟨.slice av1 an1 ac1, .slice av2 an2 ac2, hE1, B, hE2⟩, hbr⟩
        · have gx' : ¬ x > 0 := gx
          have HE : Hid (EC = -1) := by show _ = _; rw [HN.out.2.2]; unfold cornerK; rw [if_neg (by omega)]
          obtain ⟨⟨z0, z1, z2⟩, zf0, zf1, zf2⟩ := KW.three
          have KR : Hid (Blk _ _ _ _) := ((KW.set 0 (.slice av1 an1 ac1) (by simp)).set 1 (.slice av2 an2 ac2) (by simp)).set 2 (.int .i64 (-1)) (by simp)
          have RR : Hid (EdgRows _ _ _ _ _ _ _) := ((hR.low (World.grown_at wr (w.heap.size + 1) 0 (.slice av1 an1 ac1)) (by omega)).low (World.grown_at _ (w.heap.size + 1) 1 (.slice av2 an2 ac2)) (by omega)).low (World.grown_at _ (w.heap.size + 1) 2 (.int .i64 (-1))) (by omega)
          have hbr := ((hbw.setCell (p := ⟨w.heap.size + 1, 0, none⟩) (by simp) (.slice av1 an1 ac1)).setCell (p := ⟨w.heap.size + 1, 1, none⟩) (by simp) (.slice av2 an2 ac2)).setCell (p := ⟨w.heap.size + 1, 2, none⟩) (by simp) (.int .i64 (-1))
          clear b hR KW
          go_wp2
          (try simp only [Exit.inBlock, Exit.then])
          refine bodyPost_ret (results_cell_and rfl _ _ (w.heap.size + 1) 26 _ (0, 0) _ rfl KR.out Try.underlying26 rfl (by kernel_rfl)) rfl ?_
          have hE1 : (Ending.returned (.tuple #[.agg #[.slice av1 an1 ac1, .slice av2 an2 ac2, .int .i64 (-1)], .bool true]) : Ending) = .returned (.tuple #[.agg #[.slice av1 an1 ac1, .slice av2 an2 ac2, .int .i64 EC], .bool true]) := by rw [HE.out]
          have hE2 := RR.out.mono (B' := w.heap.size) (by omega)
          rw [← HA0.out, ← HL0.out, ← HN.out.1, ← HN.out.2.1] at hE2
          first
          | exact ⟨⟨.slice av1 an1 ac1, .slice av2 an2 ac2, B, hE1, hE2⟩, hbr⟩
          | exact ⟨⟨.slice av1 an1 ac1, .slice av2 an2 ac2, hE1, B, hE2⟩, hbr⟩
end Go.Proofs.Ythmcedfkfoagdaa
