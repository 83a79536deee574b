/-
  The walk of laws.FnGuesses: every guess of drawn edges is 64 dots, and the guesses of edges of one dot are that dot.
-/
import Derived.Test.YthmcedfkfoagdaaGuessCst
import Derived.Test.YthmcedfkfoagdaaEdgesVal
import Derived.Test.YthmcedfkfoagdaaCodeVal
import Derived.Test.YthmcedfkfoagdaaDrawPlaces
namespace Go.Proofs.Ythmcedfkfoagdaa
open Go.RowKit
set_option linter.unusedVariables false
set_option maxRecDepth 20000

theorem EdgRows.add2' {w w' : World} {B ge gg cp n : Nat} {v1 v2 : Value} {xs ys : List Int} {d : Int} (h : EdgRows w B ge v1 v2 xs ys) (hl : ys.length = n) (hge : ge < w.heap.size)
    (h1 : w'.ownsRow B 3 1 (.slice (some ⟨gg, 0, none⟩) (n + 1) cp) (n + 1) (ys.map (Value.int .i64) ++ [.int .i64 d])) (hg : w.grownBy w' v2.ownBlock) (hat : v2.ownBlock = some gg ∨ gg = w.heap.size) :
    EdgRows w' B ge v1 (.slice (some ⟨gg, 0, none⟩) (n + 1) cp) xs (ys ++ [d]) := by subst hl; exact h.add2 hge h1 hg hat
theorem new_after (w : World) (p : Addr) (v : Value) (o : Obj) : ((w.setCell p v).alloc o).heap[w.heap.size]? = some o := by
  have := heap_alloc_new (w.setCell p v) o
  rwa [show (w.setCell p v).heap.size = w.heap.size by simp [World.setCell]] at this

set_option maxHeartbeats 3200000 in
theorem fnGuesses_walk (a : Option Addr) (len cap : Nat) (w : World) (hc : CodeIn w a len cap) :
    Calls Try.prog 3 #[.slice a len cap] w fun e w' => e = .returned (.bool true) ∧ Below w.heap.size w w' := by
  obtain ⟨i0, hi0, hz0, hz1, hz2⟩ := info_parts infoI
  obtain ⟨hlen, hnil, hrow⟩ := hc
  have HRow : Hid (CodeRow w w.heap.size a len) := hrow
  obtain ⟨zs, hzl, hcv⟩ := codeV_of hrow
  have CE : Hid (Calls Try.prog 11 #[.slice a len cap] w fun e w' => (∃ a1 a2 c1 c2, e = .returned (edgV a1 (dX zs).length c1 a2 (dY zs).length c2 (dC zs)) ∧ Ints w' a1 (dX zs) ∧ Ints w' a2 (dY zs)) ∧ Below w.heap.size w w') := by rw [← hzl]; exact drawEdges_val a cap w.heap.size zs w hcv (Nat.le_refl _)
  have HO := d_ok zs
  generalize dX zs = xs at *
  generalize dY zs = ys at *
  generalize dC zs = c at *
  have CG : Hid (∀ m : Nat, m < 4 → ∀ (a1 a2 : Option Addr) (c1 c2 : Nat) (w' : World), Ints w' a1 xs → Ints w' a2 ys → Calls Try.prog 13 #[.int .i64 (m : Int), edgV a1 xs.length c1 a2 ys.length c2 c] w' fun e w'' => (∃ p q, e = .returned (.slice p 64 q) ∧ Ints w'' p (gueL (m : Int) xs ys c)) ∧ Below w'.heap.size w' w'') := fun m hm a1 a2 c1 c2 w' h1 h2 => guess_call HO hm a1 a2 c1 c2 _ _ rfl rfl w' h1 h2
  have CK : Hid (∀ (a1 a2 : Option Addr) (c1 c2 : Nat) (w' : World), Ints w' a1 xs → Ints w' a2 ys → Calls Try.prog 14 #[edgV a1 xs.length c1 a2 ys.length c2 c] w' fun e w'' => e = .returned (.bool true) ∧ Below w'.heap.size w' w'') := fun a1 a2 c1 c2 w' h1 h2 => ok_call HO a1 a2 c1 c2 _ _ rfl rfl w' h1 h2
  have GL : Hid (∀ m : Nat, m < 4 → (gueL (m : Int) xs ys c).length = 64 ∧ ∀ i, i < 64 → 0 ≤ (gueL (m : Int) xs ys c).getD i 0 ∧ (gueL (m : Int) xs ys c).getD i 0 ≤ 255) := fun m hm => ⟨gue_len HO hm, fun i hi => gue_dot HO hm hi⟩
  clear HO hcv hrow hzl
  go_enter Try.func3, Try.ntmps3
  go_wp2_with fail
  refine (big_any a len cap w hlen).mono ?_
  rintro e w0 ⟨rfl, hw⟩
  subst w0
  go_wp2_with fail
  refine CE.out.mono ?_
  rintro e w1 ⟨⟨a1, a2, c1, c2, rfl, i1, i2⟩, b1⟩
  go_wp2_with fail
  have X2 : Blk (w1.alloc (.cells #[.slice a1 xs.length c1, .slice a2 ys.length c2, .int .i64 c] 26)) w1.heap.size _ _ := Blk.new w1 _ _
  have hb2 := (Below.refl w1.heap.size w1).alloc (Nat.le_refl _) (.cells #[.slice a1 xs.length c1, .slice a2 ys.length c2, .int .i64 c] 26)
  have b2 := b1.alloc b1.size (.cells #[.slice a1 xs.length c1, .slice a2 ys.length c2, .int .i64 c] 26)
  have i12 := i1.below hb2 (Nat.le_refl _)
  have i22 := i2.below hb2 (Nat.le_refl _)
  have hs2 := hb2.size
  have hge := X2.lt
  clear hb2 i1 i2 b1
  generalize w1.heap.size = E at *
  generalize w1.alloc _ = w2 at *
  refine (drawPlaces_any a len cap w.heap.size w2 (HRow.out.below b2) b2.size).mono ?_
  rintro e w3 ⟨g, pc, l, rfl, hl, hin, hown, hb⟩
  have q0 := getD_in hl (show 0 < 12 by omega) hin
  have d0 := cellI hown hl 0 (by omega)
  have b3 := b2.trans (hb.mono b2.size)
  have X3 := X2.below hb X2.lt
  have i13 := i12.below hb (Nat.le_refl _)
  have i23 := i22.below hb (Nat.le_refl _)
  have hE3 := X3.lt
  have hgg : g < w3.heap.size := World.block_lt_of_cell? w3 _ d0
  generalize l.getD 0 0 = p0 at *
  obtain ⟨v, hv⟩ : ∃ v, Int.tmod p0 256 = v := ⟨_, rfl⟩
  have v0 : 0 ≤ v := by rw [← hv, Int.tmod_eq_emod_of_nonneg q0.1]; omega
  have v1 : v ≤ 255 := by rw [← hv, Int.tmod_eq_emod_of_nonneg q0.1]; omega
  clear hb hin hown hl X2 i12 i22 b2
  go_wp2
  have X4 := X3.alloc (.cells #[.slice none 0 0, .slice none 0 0, .int .i64 v] 26)
  have O4 : Blk (w3.alloc (.cells #[.slice none 0 0, .slice none 0 0, .int .i64 v] 26)) w3.heap.size _ _ := Blk.new w3 _ _
  have hb4 := (Below.refl w3.heap.size w3).alloc (Nat.le_refl _) (.cells #[.slice none 0 0, .slice none 0 0, .int .i64 v] 26)
  have R4 := edgRows_nil (w3.alloc (.cells #[.slice none 0 0, .slice none 0 0, .int .i64 v] 26)) w3.heap.size w3.heap.size
  have hs4 := hb4.size
  have hG4 := O4.lt
  have hb3w := b3.size
  clear d0 hgg hv q0
  generalize w3.alloc _ = w4 at *
  generalize hG : w3.heap.size = G at *
  go_loopw [7] (fun i wr => ∃ (k : Nat) (u1 u2 : Value), k ≤ 8 ∧ i = .int .i64 (k : Int) ∧ Blk wr G #[u1, u2, .int .i64 v] 26 ∧ EdgRows wr G G u1 u2 (List.replicate k v) (List.replicate k v) ∧ Below G w3 wr) (fun i _ => 8 - (intOf i).toNat)
  case atStart => exact ⟨0, _, _, by omega, rfl, O4, R4, hb4⟩
  case round =>
    clear O4 R4 hb4 X4 hs4
    obtain ⟨k, u1, u2, hk, rfl, b, hR, hbk⟩ := hrel
    have hbs := hbk.size
    have hgb := b.lt
    by_cases hlk : k < 8
    · have l0 : (0 : Int) ≤ (k : Int) := by omega
      have l1 : (k : Int) < 8 := by omega
      have lr : (List.replicate k v).length = k := List.length_replicate
      obtain ⟨⟨e0, e1, e2⟩, f0, f1, f2⟩ := b.three
      have ho1 := hR.one' lr
      go_wp2_with (first
        | (at_builtin; refine wpList_append_lies _ (by rfl) _ _ 24 (by rfl) G 3 i0 (.int .i64 0) 1 8 Try.underlying24 hi0 hz0 hz1 hz2 rfl (by omega) u2 k _ (by rfl) (ho2.alloc _) ⟨w5.heap.size, 0, none⟩ 1 1 [.int .i64 v] (by rfl) (by rfl) (World.news_of_block (cs := #[.int .i64 v]) (t := 3) (fr := (0, 0)) (new_after w5 _ _ _)) (by simp [Value.oneCell']) (by omega) (by unfold maxLen; omega) (by omega) (by simp; omega) (w5.heap.size + 1) (by simp) ?_; intro gg2 cp2 w6 hown6 hgrow6 hat6 hlt6; have B7 := (B6.alloc (.cells #[.int .i64 v] 3)).grew hgrow6 (fun e => R6.away2 e.symm); have R7 := (R6.below ((Below.refl _ _).alloc (Nat.le_refl _) (.cells #[.int .i64 v] 3))).add2' lr (by simp; omega) hown6 hgrow6 (by simpa using hat6); have b7 := (b6.alloc (by simp; omega) (.cells #[.int .i64 v] 3)).grown hgrow6 (by simp; omega) (fun j hj => (ho2.lt j hj).1); have R8 := R7.grew (World.grown_at' w6 G 1 (.slice (some ⟨gg2, 0, none⟩) (k + 1) cp2)); have B8 : Hid (Blk (w6.setCell ⟨G, 1, none⟩ (.slice (some ⟨gg2, 0, none⟩) (k + 1) cp2)) G #[.slice (some ⟨gg, 0, none⟩) (k + 1) cp, .slice (some ⟨gg2, 0, none⟩) (k + 1) cp2, .int .i64 v] 26) := B7.set 1 (.slice (some ⟨gg2, 0, none⟩) (k + 1) cp2) (by simp); have b8 := b7.setCell (p := ⟨G, 1, none⟩) (Nat.le_refl _) (.slice (some ⟨gg2, 0, none⟩) (k + 1) cp2); obtain ⟨⟨m0, m1, m2⟩, n0, n1, n2⟩ := B7.three; clear B7 R7 b7)
        | (at_builtin; refine wpList_append_lies _ (by rfl) _ _ 24 (by rfl) G 3 i0 (.int .i64 0) 1 8 Try.underlying24 hi0 hz0 hz1 hz2 rfl (by omega) u1 k _ (by rfl) (ho1.alloc _) ⟨wr.heap.size, 0, none⟩ 1 1 [.int .i64 v] (by rfl) (by rfl) (World.news_of_block (cs := #[.int .i64 v]) (t := 3) (fr := (0, 0)) (heap_alloc_new wr _)) (by simp [Value.oneCell']) (by omega) (by unfold maxLen; omega) (by omega) (by simp; omega) (wr.heap.size + 1) (by simp) ?_; intro gg cp w5 hown5 hgrow hat hlt5; have B5 := (b.alloc (.cells #[.int .i64 v] 3)).grew hgrow (fun e => hR.away1 e.symm); have R5 := (hR.below ((Below.refl wr.heap.size wr).alloc (Nat.le_refl _) (.cells #[.int .i64 v] 3))).add1' lr (by simp; omega) hown5 hgrow (by simpa using hat); have b5 := (hbk.alloc (by omega) (.cells #[.int .i64 v] 3)).grown hgrow (by simp; omega) (fun j hj => (ho1.lt j hj).1); have hs5 := b5.size; have R6 := R5.grew (World.grown_at' w5 G 0 (.slice (some ⟨gg, 0, none⟩) (k + 1) cp)); have ho2 := R6.two' lr; have B6 : Blk (w5.setCell ⟨G, 0, none⟩ (.slice (some ⟨gg, 0, none⟩) (k + 1) cp)) G #[.slice (some ⟨gg, 0, none⟩) (k + 1) cp, u2, .int .i64 v] 26 := B5.set 0 (.slice (some ⟨gg, 0, none⟩) (k + 1) cp) (by simp); have b6 := b5.setCell (p := ⟨G, 0, none⟩) (Nat.le_refl _) (.slice (some ⟨gg, 0, none⟩) (k + 1) cp); have hG5 := B5.lt; obtain ⟨⟨q0, q1, q2⟩, r0, r1, r2⟩ := B5.three; clear B5 R5 b5 hown5 hgrow hat hlt5))
      rw [rep_succ] at R8
      refine ⟨⟨k + 1, _, _, by omega, by go_num, B8.out, R8, b8⟩, ?_⟩
      simp [intOf]; omega
    · obtain rfl : k = 8 := by omega
      have lr : (List.replicate 8 v).length = 8 := List.length_replicate
      obtain ⟨p1, r1, rfl⟩ := own_slice (hR.one' lr)
      obtain ⟨p2, r2, rfl⟩ := own_slice (hR.two' lr)
      have I1 := owned_at (xs := List.replicate 8 v) (by rw [lr]; exact hR.one' lr)
      have I2 := owned_at (xs := List.replicate 8 v) (by rw [lr]; exact hR.two' lr)
      have hEG : E < G := by omega
      have HK : Hid (∀ w', Below wr.heap.size wr w' → Blk w' E #[.slice a1 xs.length c1, .slice a2 ys.length c2, .int .i64 c] 26 ∧ Blk w' G #[.slice p1 8 r1, .slice p2 8 r2, .int .i64 v] 26 ∧ (Ints w' a1 xs ∧ Ints w' a2 ys) ∧ (Ints w' p1 (List.replicate 8 v) ∧ Ints w' p2 (List.replicate 8 v)) ∧ Below w.heap.size w w') := fun w' hb =>
        ⟨(X3.below hbk hEG).below hb (Nat.lt_of_lt_of_le hEG (Nat.le_of_lt hgb)), b.below hb hgb, ⟨(i13.below hbk (by omega)).below hb (Nat.le_refl _), (i23.below hbk (by omega)).below hb (Nat.le_refl _)⟩, ⟨I1.below hb (Nat.le_refl _), I2.below hb (Nat.le_refl _)⟩, (b3.trans (hbk.mono (by omega))).trans (hb.mono (by omega))⟩
      have HGC : Hid (∀ m : Nat, m < 4 → ∀ w', Below wr.heap.size wr w' → Calls Try.prog 13 #[.int .i64 (m : Int), edgV p1 8 r1 p2 8 r2 v] w' fun e w'' => (∃ p q, e = .returned (.slice p 64 q) ∧ Ints w'' p (gueL (m : Int) (List.replicate 8 v) (List.replicate 8 v) v)) ∧ Below w'.heap.size w' w'') := fun m hm w' hb =>
        guess_call (edges_cst v0 v1) hm p1 p2 r1 r2 8 8 lr lr w' (HK.out w' hb).2.2.2.1.1 (HK.out w' hb).2.2.2.1.2
      have HGL : Hid (∀ m : Nat, m < 4 → (gueL (m : Int) (List.replicate 8 v) (List.replicate 8 v) v).length = 64 ∧ ∀ i, i < 64 → (gueL (m : Int) (List.replicate 8 v) (List.replicate 8 v) v).getD i 0 = v) := fun m hm => ⟨gue_len (edges_cst v0 v1) hm, fun i hi => gue_cst v0 v1 hm hi⟩
      have HOK : Hid (∀ w', Below wr.heap.size wr w' → Calls Try.prog 14 #[edgV p1 8 r1 p2 8 r2 v] w' fun e w'' => e = .returned (.bool true) ∧ Below w'.heap.size w' w'') := fun w' hb =>
        ok_call (edges_cst v0 v1) p1 p2 r1 r2 8 8 lr lr w' (HK.out w' hb).2.2.2.1.1 (HK.out w' hb).2.2.2.1.2
      clear hR I1 I2 X3 i13 i23 b3 hbk b hbs lr
      obtain ⟨wq, hwq⟩ : ∃ x, x = wr := ⟨_, rfl⟩
      subst hwq
      go_wp2
      go_loopw [8] (fun i wx => ∃ m : Nat, m ≤ 4 ∧ i = .int .i64 (m : Int) ∧ Below wq.heap.size wq wx) (fun i _ => 4 - (intOf i).toNat)
      case atStart => exact ⟨0, by omega, rfl, Below.refl _ _⟩
      case round =>
        obtain ⟨m, hm, rfl, hbx⟩ := hrel
        obtain ⟨BE, BG, ⟨j1, j2⟩, _, hbw⟩ := HK.out wr hbx
        obtain ⟨⟨x0, x1, x2⟩, _⟩ := BE.three
        obtain ⟨⟨y0, y1, y2⟩, _⟩ := BG.three
        by_cases hlm : m < 4
        · have l0 : (0 : Int) ≤ (m : Int) := by omega
          have l1 : (m : Int) < 4 := by omega
          have HC1 : Hid (Calls _ _ _ _ _) := CG.out m hlm a1 a2 c1 c2 wr j1 j2
          obtain ⟨gl, gd⟩ := GL.out m hlm
          obtain ⟨kl, kd⟩ := HGL.out m hlm
          have HC2 : Hid (∀ w', Below wq.heap.size wq w' → Calls Try.prog 13 #[.int .i64 (m : Int), edgV p1 8 r1 p2 8 r2 v] w' fun e w'' => (∃ p q, e = .returned (.slice p 64 q) ∧ Ints w'' p (gueL (m : Int) (List.replicate 8 v) (List.replicate 8 v) v)) ∧ Below w'.heap.size w' w'') := fun w' hb => HGC.out m hlm w' hb
          generalize gueL (m : Int) xs ys c = D at *
          generalize gueL (m : Int) (List.replicate 8 v) (List.replicate 8 v) v = F at *
          clear j1 j2 BE BG
          go_wp2_with fail
          refine HC1.out.mono ?_
          rintro e wy ⟨⟨dp, dq, rfl, hd⟩, hb⟩
          have hby := hbx.trans (hb.mono hbx.size)
          obtain ⟨_, BG, _, _, hbw2⟩ := HK.out wy hby
          clear x0 x1 x2 y0 y1 y2 hb hbw HC1
          obtain ⟨⟨y0, y1, y2⟩, _⟩ := BG.three
          go_wp2_with fail
          refine (HC2.out wy hby).mono ?_
          rintro e wz ⟨⟨fp, fq, rfl, hf⟩, hb⟩
          have hbz := hby.trans (hb.mono hby.size)
          have hd' := hd.below hb (Nat.le_refl _)
          obtain ⟨_, _, _, _, hbw3⟩ := HK.out wz hbz
          rcases hd' with h0 | ⟨db, doff, rfl, hdg, hdc⟩
          · rw [h0] at gl; cases gl
          rcases hf with h0 | ⟨fb, foff, rfl, hfg, hfc⟩
          · rw [h0] at kl; cases kl
          have HDC : Hid (∀ i, i < 64 → wz.cell? ⟨db, doff + i, none⟩ = some (.int .i64 (D.getD i 0)) ∧ (0 ≤ D.getD i 0 ∧ D.getD i 0 ≤ 255)) := fun i hi => ⟨hdc i (by rw [gl]; exact hi), gd i hi⟩
          have HFC : Hid (∀ i, i < 64 → wz.cell? ⟨fb, foff + i, none⟩ = some (.int .i64 v)) := fun i hi => (hfc i (by rw [kl]; exact hi)).trans (by rw [kd i hi])
          clear hd hb BG y0 y1 y2 hbw2 gd kd HC2 hdc hfc
          go_wp2
          go_loop [11] (fun i => ∃ j : Nat, j ≤ 64 ∧ i = .int .i64 (j : Int)) (fun i => 64 - (intOf i).toNat)
          case atStart => exact ⟨0, by omega, rfl⟩
          case round =>
            obtain ⟨j, hj, rfl⟩ := hrel
            by_cases hlj : j < 64
            · have t0 : (0 : Int) ≤ (j : Int) := by omega
              have t1 : (j : Int) < 64 := by omega
              obtain ⟨cd, x0, x1⟩ := HDC.out j hlj
              have cf := HFC.out j hlj
              generalize D.getD j 0 = x at *
              have nx0 : ¬ x < 0 := by omega
              have nx1 : ¬ 255 < x := by omega
              go_wp2
              go_round
              case rel => exact ⟨j + 1, by omega, by go_num⟩
              case measure => simp [intOf]; omega
            · obtain rfl : j = 64 := by omega
              go_wp2
              exact ⟨⟨m + 1, by omega, by omega⟩, by simp [intOf]; omega⟩
        · obtain rfl : m = 4 := by omega
          have HC1 : Hid (Calls _ _ _ _ _) := CK.out a1 a2 c1 c2 wr j1 j2
          clear j1 j2 BE BG
          go_wp2_with fail
          refine HC1.out.mono ?_
          rintro e wy ⟨rfl, hb⟩
          have hby := hbx.trans (hb.mono hbx.size)
          obtain ⟨_, BG, _, _, hbw2⟩ := HK.out wy hby
          clear x0 x1 x2 y0 y1 y2 hb hbw HC1
          obtain ⟨⟨y0, y1, y2⟩, _⟩ := BG.three
          go_wp2_with fail
          refine (HOK.out wy hby).mono ?_
          rintro e wz ⟨rfl, hb⟩
          have hbz := hby.trans (hb.mono hby.size)
          obtain ⟨_, _, _, _, hbw3⟩ := HK.out wz hbz
          clear y0 y1 y2 hb hbw2 BG
          go_wp2
          go_ret
          exact ⟨rfl, hbw3⟩
end Go.Proofs.Ythmcedfkfoagdaa
