/-
  A drawn picture near to another one: the walks of spec.l17Near and spec.DrawPics.
-/
import Derived.Test.YtpodpfdbklffgaaPicDraw2
import Derived.Test.YtpodpfdbklffgaaDotKit
namespace Go.Proofs.Ytpodpfdbklffgaa
open Go.RowKit
set_option linter.unusedVariables false
set_option maxRecDepth 20000

theorem curKept_of_below {w w' : World} {g : Nat} {a : Option Addr} {len : Nat} (h : CurAt w g a len) (hb : Below w.heap.size w w') : CurKept w w' g a len :=
  ⟨h.kept (grown_of_below hb none) (by simp), grown_of_below hb (some g)⟩

theorem u8_same {d : Int} (h0 : 0 ≤ d) (h1 : d ≤ 255) : IntKind.u8.wrap d = d := by
  rw [IntKind.wrap_u8]
  omega

set_option maxHeartbeats 3200000 in
theorem near_any (g : Nat) (a : Option Addr) (len B : Nat) (W H : Int) (s : ByteArray) (w : World) (hc : CodeRow w B a len) (hB : B ≤ g) (hcur : CurAt w g a len) (hok : picB W H s = true) (h256 : (s.size : Int) ≤ 256) :
    Calls Try.prog 38 #[.pointer (some ⟨g, 0, none⟩), picV W H s] w fun e w' => ∃ t : ByteArray, e = .returned (picV W H t) ∧ t.size = s.size ∧ CurKept w w' g a len := by
  obtain ⟨i0, hi0, hz0, hz1, hz2⟩ := info_parts infoB
  have hgw := hcur.lt
  have hBw : B ≤ w.heap.size := by omega
  have CD : Hid (∀ (x y : Int) w', Calls Try.prog 27 #[picV W H s, .int .i64 x, .int .i64 y] w' (fun e w'' => ∃ d : Int, e = .returned (.int .i64 d) ∧ 0 ≤ d ∧ d ≤ 255 ∧ Below w'.heap.size w' w'')) := fun x y w' => by
    have := specDotAt W H s x y w'
    unfold dotO at this
    rw [if_pos hok] at this
    refine this.mono fun e w'' h => ?_
    have hd := dotF_in W H s x y
    exact ⟨_, h.1, hd.1, hd.2, h.2⟩
  have hW : 1 ≤ W ∧ W ≤ 256 := (picB_iff.1 hok).1
  have h1s : (1 : Int) ≤ (s.size : Int) := by
    have h3 := (picB_iff.1 hok).2.2
    have := sides_mul hW (picB_iff.1 hok).2.1
    omega
  clear hok
  go_enter Try.func38, Try.ntmps38
  go_wp2_with fail
  generalize hX : World.alloc w _ = V
  have A0 : Blk V w.heap.size #[.int .i64 W, .int .i64 H, .string s] 25 := by rw [← hX]; exact Blk.new w _ _
  have hs0 : V.heap.size = w.heap.size + 1 := by rw [← hX]; simp
  have hg0 : w.grownBy V (some g) := by rw [← hX]; exact World.grownBy_alloc w _ _
  have hcv : CurAt V g a len := by rw [← hX]; exact hcur.kept (World.grownBy_alloc w _ none) (by simp)
  clear hX
  generalize hX : World.alloc V _ = X
  have A1 : Blk X w.heap.size #[.int .i64 W, .int .i64 H, .string s] 25 := by rw [← hX]; exact A0.alloc _
  have B1 : Blk X (w.heap.size + 1) #[.int .i64 0, .int .i64 0, .string ⟨#[]⟩] 25 := by rw [← hX, ← hs0]; exact Blk.new V _ _
  have hg1 : w.grownBy X (some g) := by rw [← hX]; exact hg0.trans (World.grownBy_alloc V _ _)
  have hcx : CurAt X g a len := by rw [← hX]; exact hcv.kept (World.grownBy_alloc V _ none) (by simp)
  clear hX A0 hs0 hg0 hcv
  have hX1 := B1.lt
  have PB : Hid (∀ w', X.grownBy w' (some g) → (w'.cell? ⟨w.heap.size, 0, none⟩ = some (.int .i64 W) ∧ w'.cell? ⟨w.heap.size, 1, none⟩ = some (.int .i64 H) ∧ w'.cell? ⟨w.heap.size, 2, none⟩ = some (.string s)) ∧ Blk w' (w.heap.size + 1) #[.int .i64 0, .int .i64 0, .string ⟨#[]⟩] 25) := fun w' h =>
    ⟨(A1.grew' h (by intro e; have := Option.some.inj e; omega)).three.1, B1.grew' h (by intro e; have := Option.some.inj e; omega)⟩
  have hcX : CodeRow X B a len := code_grown hc hg1 hB hBw
  have hBX : B ≤ X.heap.size := by omega
  clear A1 B1 hc hcur
  refine (below_any g a len B 7 X hcX hB hcx (by omega) (by omega)).mono ?_
  rintro e w1 ⟨d1, rfl, hd0, hd1, hk1⟩
  have hc1 := hk1.code hcX hB hBX
  have hs1 := hk1.2.size
  go_wp2_with fail
  refine (below_any g a len B 5 w1 hc1 hB hk1.1 (by omega) (by omega)).mono ?_
  rintro e w2 ⟨d2, rfl, hd0', hd1', hk2'⟩
  have hk2 := hk1.trans hk2'
  have hc2 := hk2.code hcX hB hBX
  have hs2 := hk2.2.size
  clear hk1 hk2' hc1 hs1
  go_wp2_with fail
  refine (once_any g a len B 3 w2 hc2 hB hk2.1 (by omega) (by omega)).mono ?_
  rintro e w3 ⟨o, rfl, hk3'⟩
  have hk3 := hk2.trans hk3'
  have hs3 := hk3.2.size
  have hcu3 := hk3.1
  have hg3 := hk3.2
  have hcXX : Hid (CodeRow X B a len) := hcX
  clear hk3' hk2 hc2 hs2 hcX hcx hk3
  cases o with
  | true =>
    go_wp2_with fail
    have o1 : (w3.alloc (.cells #[] 5)).ownsRow X.heap.size 5 1 (.slice (some ⟨w3.heap.size, 0, none⟩) 0 0) 0 (([] : List Int).map (Value.int .u8)) := World.ownsRow_lit w3 #[] 0 hs3 (by unfold maxLen; omega) rfl
    have hcu4 : CurAt (w3.alloc (.cells #[] 5)) g a len := hcu3.kept (World.grownBy_alloc w3 _ none) (by simp)
    have hg4 : X.grownBy (w3.alloc (.cells #[] 5)) (some g) := hg3.trans (World.grownBy_alloc w3 _ _)
    go_loopw [7, 8] (fun v i wr => ∃ (k : Nat) (l : List Int), k ≤ s.size ∧ i = .int .i64 (k : Int) ∧ l.length = k ∧ wr.ownsRow X.heap.size 5 1 v k (l.map (Value.int .u8)) ∧ CurAt wr g a len ∧ X.grownBy wr (some g)) (fun _ i _ => s.size - (intOf i).toNat)
    case atStart => exact ⟨0, [], Nat.zero_le _, rfl, rfl, o1, hcu4, hg4⟩
    case round =>
      obtain ⟨k, l, hk, rfl, hll, hown, hcr, hgr⟩ := hrel
      have HL : Hid (l.length = k) := hll
      clear hll o1 hcu4 hg4
      have l0 : (0 : Int) ≤ (k : Int) := by omega
      have hsz0 := hgr.size
      obtain ⟨⟨x0, x1, x2⟩, KB⟩ := PB.out wr hgr
      by_cases hlt : k < s.size
      · have l1 : (k : Int) < (s.size : Int) := by omega
        have k256 : k < 256 := by omega
        have nW : ¬ W = 0 := by omega
        obtain ⟨r0, tr⟩ : ∃ r0, Int.tmod (k : Int) W = r0 := ⟨_, rfl⟩
        obtain ⟨q0, tq⟩ : ∃ q0, Int.tdiv (k : Int) W = q0 := ⟨_, rfl⟩
        have q0b : 0 ≤ q0 ∧ q0 ≤ (k : Int) := by rw [← tq, Int.tdiv_eq_ediv_of_nonneg l0]; exact ⟨Int.ediv_nonneg l0 (by omega), Int.ediv_le_self _ l0⟩
        have wq : IntKind.i64.wrap q0 = q0 := IntWalk.i64_in _ ⟨by omega, by omega⟩
        have K0 := (PB.out wr.drew (hgr.trans (grown_of_below (Below.refl wr.heap.size wr).drew (some g)))).1
        have hgX : g < X.heap.size := by omega
        clear KB
        go_wp2_with fail
        go_region_held3 (fun w' => w'.cell? ⟨w.heap.size, 0, none⟩ = some (.int .i64 W) ∧ w'.cell? ⟨w.heap.size, 1, none⟩ = some (.int .i64 H) ∧ w'.cell? ⟨w.heap.size, 2, none⟩ = some (.string s))
          (first | with_reducible exact K0 | with_reducible exact K5 | with_reducible exact K5a | with_reducible exact K6)
          (first
            | (go_at_call 27; refine (CD.out _ _ _).mono ?_; rintro e w5 ⟨d, rfl, dd0, dd1, hr⟩; have hkp : CurKept wr w5 g a len := curKept_of_below hcr ((Below.refl wr.heap.size wr).drew.trans hr); have hown' := own_cur hown hgX hkp; have K5 := (PB.out w5 (hgr.trans hkp.2)).1; have K5a := (PB.out _ ((hgr.trans hkp.2).trans (World.grownBy_alloc w5 (.cells #[.int .u8 d] 5) (some g)))).1; have hsz5 := hkp.2.size; have du : IntKind.u8.wrap d = d := u8_same dd0 dd1; clear hr)
            | (refine step_append_lies _ (by rfl) _ _ _ (by rfl) X.heap.size 5 i0 (.int .u8 0) 1 1 Try.underlying22 hi0 hz0 hz1 hz2 rfl (by omega) u7 k _ (by rfl) (hown'.alloc _) ⟨w5.heap.size, 0, none⟩ 1 1 [.int .u8 d] (by rfl) (by rfl) (World.news_of_block (cs := #[.int .u8 d]) (t := 5) (fr := (0, 0)) (heap_alloc_new w5 _)) (by simp [Value.oneCell']) (by omega) (by unfold maxLen; omega) (by omega) (by simp; omega) (w5.heap.size + 1) (by simp) ?_; intro gg cp w6 hown2 hgrow hat hlt2; have R := cur_append (v' := u7) (ys := []) (m := 0) hgr hown hgX hkp hgrow; have K6 := (PB.out w6 R.2).1))
        have hown3 : w6.ownsRow X.heap.size 5 1 (.slice (some ⟨gg, 0, none⟩) (k + 1) cp) (k + 1) ((l ++ [d]).map (Value.int .u8)) := by simpa using hown2
        clear hown2 hgrow hat hlt2 hown hown' hcr hkp K0 K5 K5a K6 nW tr tq wq q0b du
        go_wp2
        go_roundw
        case rel => exact ⟨k + 1, l ++ [d], by omega, by go_num, by have := HL.out; simp; omega, hown3, R.1, R.2⟩
        case measure => simp [intOf]; omega
      · obtain rfl : k = s.size := by omega
        clear KB
        obtain ⟨gb, cb, rfl, hgb, hlb⟩ := hown.form (by omega)
        have ne1 : g ≠ gb := by omega
        have hgX : g < X.heap.size := by omega
        go_wp2_with fail
        clear x0 x1 x2
        go_loopw [9] (fun i wr => ∃ (k : Nat) (l : List Int), k ≤ 6 ∧ i = .int .i64 (k : Int) ∧ l.length = s.size ∧ wr.ownsRow X.heap.size 5 1 (.slice (some ⟨gb, 0, none⟩) s.size cb) s.size (l.map (Value.int .u8)) ∧ CurAt wr g a len ∧ X.grownBy wr (some g)) (fun i _ => 6 - (intOf i).toNat)
        case atStart => exact ⟨0, l, by omega, rfl, HL.out, hown, hcr, hgr⟩
        case round =>
          obtain ⟨k, l', hk, rfl, hll, hown', hcr', hgr'⟩ := hrel
          have HL' : Hid (l'.length = s.size) := hll
          clear hll hown hcr hgr HL
          have l0 : (0 : Int) ≤ (k : Int) := by omega
          have l6 : (k : Int) ≤ 6 := by omega
          have hcd := code_grown hcXX.out hgr' hB hBX
          go_wp2_with fail
          refine (below_any g a len B 6 wr hcd hB hcr' (by omega) (by omega)).mono ?_
          rintro e w5 ⟨x, rfl, hx0, hx1, hk5⟩
          have hg5 := hgr'.trans hk5.2
          have hc5 := code_grown hcXX.out hg5 hB hBX
          have ho5 := own_cur hown' hgX hk5
          have hcu5 := hk5.1
          clear hk5 hcr' hown' hcd hgr'
          by_cases hlx : (k : Int) < x
          · go_wp2_with fail
            refine (below_any g a len B (s.size : Int) w5 hc5 hB hcu5 (by omega) (by omega)).mono ?_
            rintro e w6 ⟨y, rfl, hy0, hy1, hk6⟩
            have hg6 := hg5.trans hk6.2
            have hc6 := code_grown hcXX.out hg6 hB hBX
            have ho6 := own_cur ho5 hgX hk6
            have hcu6 := hk6.1
            clear hk6 hcu5 ho5 hc5 hg5
            obtain ⟨j, hj⟩ : ∃ j : Nat, y = (j : Int) := ⟨y.toNat, by omega⟩
            subst hj
            go_wp2_with fail
            refine (byte_any g a len B w6 hc6 hB hcu6).mono ?_
            rintro e w7 ⟨z, rfl, hz0', hz1', hcu7, hg67⟩
            have hk7 : CurKept w6 w7 g a len := ⟨hcu7, hg67⟩
            have hg7 := hg6.trans hk7.2
            have ho7 := own_cur ho6 hgX hk7
            clear hk7 hg67 hcu6 ho6 hc6 hg6
            have hjl : j < s.size := by omega
            have hll : l'.length = s.size := HL'.out
            have hce : w7.cell? ⟨gb, j, none⟩ = some (.int .u8 (l'.getD j 0)) := by
              rw [ho7.cellAt j (by omega)]
              simp [List.getElem?_eq_getElem (show j < l'.length by omega)]
            have hfz := ho7.frozenAt j
            have hst := (ho7.stored j (.int .u8 z)).1
            have HST : Hid ((w7.setCell ⟨gb, j, none⟩ (.int .u8 z)).ownsRow X.heap.size 5 1 (.slice (some ⟨gb, 0, none⟩) s.size cb) s.size ((l'.set j z).map (Value.int .u8))) := by
              show World.ownsRow _ _ _ _ _ _ _
              rw [List.map_set]
              exact hst
            have hcu8 : CurAt (w7.setCell ⟨gb, j, none⟩ (.int .u8 z)) g a len := hcu7.other (p := ⟨gb, j, none⟩) ne1 _
            have hg8 : X.grownBy (w7.setCell ⟨gb, j, none⟩ (.int .u8 z)) (some g) := grown_new hg7 (p := ⟨gb, j, none⟩) hgb _
            clear hst hll ho7 hcu7 hg7
            go_wp2
            go_roundw
            case rel => exact ⟨k + 1, l'.set j z, by omega, by go_num, by rw [List.length_set]; exact HL'.out, HST.out, hcu8, hg8⟩
            case measure => simp [intOf]; omega
          · have hconv := convD ho5
            obtain ⟨⟨x0, x1, x2⟩, K6⟩ := PB.out w5 hg5
            obtain ⟨⟨z0, z1, z2⟩, f0, f1, f2⟩ := K6.three
            have hsz : (strOfNums l').size = s.size := by rw [strOfNums_size]; exact HL'.out
            have HZ : Hid ((strOfNums l').size = s.size) := hsz
            clear hsz
            generalize strOfNums l' = T at *
            have KR := K6.pic (.int .i64 W) (.int .i64 H) (.string T)
            have hgr := grown_pic (hg1.trans hg5) (g := w.heap.size + 1) (by omega) (.int .i64 W) (.int .i64 H) (.string T)
            have hcr := hcu5.pic (k := w.heap.size + 1) (by omega) (.int .i64 W) (.int .i64 H) (.string T)
            clear K6 hcu5 hg5 ho5
            go_wp2
            (try simp only [Exit.inBlock, Exit.then])
            refine bodyPost_ret (results_cell_row rfl _ _ (w.heap.size + 1) 25 _ (0, 0) _ rfl KR Try.underlying25 rfl (by kernel_rfl)) rfl ?_
            exact ⟨T, rfl, HZ.out, hcr, hgr⟩
  | false =>
    go_wp2_with fail
    have o1 : (w3.alloc (.cells #[] 5)).ownsRow X.heap.size 5 1 (.slice (some ⟨w3.heap.size, 0, none⟩) 0 0) 0 (([] : List Int).map (Value.int .u8)) := World.ownsRow_lit w3 #[] 0 hs3 (by unfold maxLen; omega) rfl
    have hcu4 : CurAt (w3.alloc (.cells #[] 5)) g a len := hcu3.kept (World.grownBy_alloc w3 _ none) (by simp)
    have hg4 : X.grownBy (w3.alloc (.cells #[] 5)) (some g) := hg3.trans (World.grownBy_alloc w3 _ _)
    go_loopw [7, 8] (fun v i wr => ∃ (k : Nat) (l : List Int), k ≤ s.size ∧ i = .int .i64 (k : Int) ∧ l.length = k ∧ wr.ownsRow X.heap.size 5 1 v k (l.map (Value.int .u8)) ∧ CurAt wr g a len ∧ X.grownBy wr (some g)) (fun _ i _ => s.size - (intOf i).toNat)
    case atStart => exact ⟨0, [], Nat.zero_le _, rfl, rfl, o1, hcu4, hg4⟩
    case round =>
      obtain ⟨k, l, hk, rfl, hll, hown, hcr, hgr⟩ := hrel
      have HL : Hid (l.length = k) := hll
      clear hll o1 hcu4 hg4
      have l0 : (0 : Int) ≤ (k : Int) := by omega
      have hsz0 := hgr.size
      obtain ⟨⟨x0, x1, x2⟩, KB⟩ := PB.out wr hgr
      by_cases hlt : k < s.size
      · have l1 : (k : Int) < (s.size : Int) := by omega
        have k256 : k < 256 := by omega
        have nW : ¬ W = 0 := by omega
        obtain ⟨r0, tr⟩ : ∃ r0, Int.tmod (k : Int) W = r0 := ⟨_, rfl⟩
        obtain ⟨q0, tq⟩ : ∃ q0, Int.tdiv (k : Int) W = q0 := ⟨_, rfl⟩
        have q0b : 0 ≤ q0 ∧ q0 ≤ (k : Int) := by rw [← tq, Int.tdiv_eq_ediv_of_nonneg l0]; exact ⟨Int.ediv_nonneg l0 (by omega), Int.ediv_le_self _ l0⟩
        have wq : IntKind.i64.wrap q0 = q0 := IntWalk.i64_in _ ⟨by omega, by omega⟩
        have K0 := (PB.out wr.drew (hgr.trans (grown_of_below (Below.refl wr.heap.size wr).drew (some g)))).1
        have hgX : g < X.heap.size := by omega
        clear KB
        go_wp2_with fail
        go_region_held3 (fun w' => w'.cell? ⟨w.heap.size, 0, none⟩ = some (.int .i64 W) ∧ w'.cell? ⟨w.heap.size, 1, none⟩ = some (.int .i64 H) ∧ w'.cell? ⟨w.heap.size, 2, none⟩ = some (.string s))
          (first | with_reducible exact K0 | with_reducible exact K5 | with_reducible exact K5a | with_reducible exact K6)
          (first
            | (go_at_call 27; refine (CD.out _ _ _).mono ?_; rintro e w5 ⟨d, rfl, dd0, dd1, hr⟩; have hkp : CurKept wr w5 g a len := curKept_of_below hcr ((Below.refl wr.heap.size wr).drew.trans hr); have hown' := own_cur hown hgX hkp; have K5 := (PB.out w5 (hgr.trans hkp.2)).1; have K5a := (PB.out _ ((hgr.trans hkp.2).trans (World.grownBy_alloc w5 (.cells #[.int .u8 d] 5) (some g)))).1; have hsz5 := hkp.2.size; have du : IntKind.u8.wrap d = d := u8_same dd0 dd1; clear hr)
            | (refine step_append_lies _ (by rfl) _ _ _ (by rfl) X.heap.size 5 i0 (.int .u8 0) 1 1 Try.underlying22 hi0 hz0 hz1 hz2 rfl (by omega) u7 k _ (by rfl) (hown'.alloc _) ⟨w5.heap.size, 0, none⟩ 1 1 [.int .u8 d] (by rfl) (by rfl) (World.news_of_block (cs := #[.int .u8 d]) (t := 5) (fr := (0, 0)) (heap_alloc_new w5 _)) (by simp [Value.oneCell']) (by omega) (by unfold maxLen; omega) (by omega) (by simp; omega) (w5.heap.size + 1) (by simp) ?_; intro gg cp w6 hown2 hgrow hat hlt2; have R := cur_append (v' := u7) (ys := []) (m := 0) hgr hown hgX hkp hgrow; have K6 := (PB.out w6 R.2).1))
        have hown3 : w6.ownsRow X.heap.size 5 1 (.slice (some ⟨gg, 0, none⟩) (k + 1) cp) (k + 1) ((l ++ [d]).map (Value.int .u8)) := by simpa using hown2
        clear hown2 hgrow hat hlt2 hown hown' hcr hkp K0 K5 K5a K6 nW tr tq wq q0b du
        go_wp2
        go_roundw
        case rel => exact ⟨k + 1, l ++ [d], by omega, by go_num, by have := HL.out; simp; omega, hown3, R.1, R.2⟩
        case measure => simp [intOf]; omega
      · obtain rfl : k = s.size := by omega
        clear KB
        obtain ⟨gb, cb, rfl, hgb, hlb⟩ := hown.form (by omega)
        have ne1 : g ≠ gb := by omega
        have hgX : g < X.heap.size := by omega
        go_wp2_with fail
        clear x0 x1 x2
        go_loopw [9] (fun i wr => ∃ (k : Nat) (l : List Int), k ≤ 6 ∧ i = .int .i64 (k : Int) ∧ l.length = s.size ∧ wr.ownsRow X.heap.size 5 1 (.slice (some ⟨gb, 0, none⟩) s.size cb) s.size (l.map (Value.int .u8)) ∧ CurAt wr g a len ∧ X.grownBy wr (some g)) (fun i _ => 6 - (intOf i).toNat)
        case atStart => exact ⟨0, l, by omega, rfl, HL.out, hown, hcr, hgr⟩
        case round =>
          obtain ⟨k, l', hk, rfl, hll, hown', hcr', hgr'⟩ := hrel
          have HL' : Hid (l'.length = s.size) := hll
          clear hll hown hcr hgr HL
          have l0 : (0 : Int) ≤ (k : Int) := by omega
          have l6 : (k : Int) ≤ 6 := by omega
          have hcd := code_grown hcXX.out hgr' hB hBX
          go_wp2_with fail
          refine (below_any g a len B 6 wr hcd hB hcr' (by omega) (by omega)).mono ?_
          rintro e w5 ⟨x, rfl, hx0, hx1, hk5⟩
          have hg5 := hgr'.trans hk5.2
          have hc5 := code_grown hcXX.out hg5 hB hBX
          have ho5 := own_cur hown' hgX hk5
          have hcu5 := hk5.1
          clear hk5 hcr' hown' hcd hgr'
          by_cases hlx : (k : Int) < x
          · go_wp2_with fail
            refine (below_any g a len B (s.size : Int) w5 hc5 hB hcu5 (by omega) (by omega)).mono ?_
            rintro e w6 ⟨y, rfl, hy0, hy1, hk6⟩
            have hg6 := hg5.trans hk6.2
            have hc6 := code_grown hcXX.out hg6 hB hBX
            have ho6 := own_cur ho5 hgX hk6
            have hcu6 := hk6.1
            clear hk6 hcu5 ho5 hc5 hg5
            obtain ⟨j, hj⟩ : ∃ j : Nat, y = (j : Int) := ⟨y.toNat, by omega⟩
            subst hj
            go_wp2_with fail
            refine (byte_any g a len B w6 hc6 hB hcu6).mono ?_
            rintro e w7 ⟨z, rfl, hz0', hz1', hcu7, hg67⟩
            have hk7 : CurKept w6 w7 g a len := ⟨hcu7, hg67⟩
            have hg7 := hg6.trans hk7.2
            have ho7 := own_cur ho6 hgX hk7
            clear hk7 hg67 hcu6 ho6 hc6 hg6
            have hjl : j < s.size := by omega
            have hll : l'.length = s.size := HL'.out
            have hce : w7.cell? ⟨gb, j, none⟩ = some (.int .u8 (l'.getD j 0)) := by
              rw [ho7.cellAt j (by omega)]
              simp [List.getElem?_eq_getElem (show j < l'.length by omega)]
            have hfz := ho7.frozenAt j
            have hst := (ho7.stored j (.int .u8 z)).1
            have HST : Hid ((w7.setCell ⟨gb, j, none⟩ (.int .u8 z)).ownsRow X.heap.size 5 1 (.slice (some ⟨gb, 0, none⟩) s.size cb) s.size ((l'.set j z).map (Value.int .u8))) := by
              show World.ownsRow _ _ _ _ _ _ _
              rw [List.map_set]
              exact hst
            have hcu8 : CurAt (w7.setCell ⟨gb, j, none⟩ (.int .u8 z)) g a len := hcu7.other (p := ⟨gb, j, none⟩) ne1 _
            have hg8 : X.grownBy (w7.setCell ⟨gb, j, none⟩ (.int .u8 z)) (some g) := grown_new hg7 (p := ⟨gb, j, none⟩) hgb _
            clear hst hll ho7 hcu7 hg7
            go_wp2
            go_roundw
            case rel => exact ⟨k + 1, l'.set j z, by omega, by go_num, by rw [List.length_set]; exact HL'.out, HST.out, hcu8, hg8⟩
            case measure => simp [intOf]; omega
          · have hconv := convD ho5
            obtain ⟨⟨x0, x1, x2⟩, K6⟩ := PB.out w5 hg5
            obtain ⟨⟨z0, z1, z2⟩, f0, f1, f2⟩ := K6.three
            have hsz : (strOfNums l').size = s.size := by rw [strOfNums_size]; exact HL'.out
            have HZ : Hid ((strOfNums l').size = s.size) := hsz
            clear hsz
            generalize strOfNums l' = T at *
            have KR := K6.pic (.int .i64 W) (.int .i64 H) (.string T)
            have hgr := grown_pic (hg1.trans hg5) (g := w.heap.size + 1) (by omega) (.int .i64 W) (.int .i64 H) (.string T)
            have hcr := hcu5.pic (k := w.heap.size + 1) (by omega) (.int .i64 W) (.int .i64 H) (.string T)
            clear K6 hcu5 hg5 ho5
            go_wp2
            (try simp only [Exit.inBlock, Exit.then])
            refine bodyPost_ret (results_cell_row rfl _ _ (w.heap.size + 1) 25 _ (0, 0) _ rfl KR Try.underlying25 rfl (by kernel_rfl)) rfl ?_
            exact ⟨T, rfl, HZ.out, hcr, hgr⟩
end Go.Proofs.Ytpodpfdbklffgaa
