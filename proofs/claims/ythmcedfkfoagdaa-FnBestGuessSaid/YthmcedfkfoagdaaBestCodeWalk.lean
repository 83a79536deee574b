/-
  The walk of laws.FnBestGuess: the best guess of drawn dots beside drawn edges is the first of those that cost least.
-/
import Derived.Test.YthmcedfkfoagdaaGuessCst
import Derived.Test.YthmcedfkfoagdaaEdgesVal
import Derived.Test.YthmcedfkfoagdaaCodeVal
import Derived.Test.YthmcedfkfoagdaaBestSpec
import Derived.Test.YthmcedfkfoagdaaBestImpl
import Derived.Deep.RegionLaw
import Derived.Deep.CutRange
import Derived.Deep.AppendLies
namespace Go.Proofs.Ythmcedfkfoagdaa
open Go.RowKit
set_option linter.unusedVariables false
set_option maxRecDepth 20000

/-- What the law asks of the best guess. -/
structure BestIs (C : Nat → Int) (b : Nat) (L : Int) : Prop where
  lt : b < 4
  at' : L = C b
  le : ∀ i, i < 4 → L ≤ C i
  first : ∀ i, i < b → L < C i
  pos : 1 ≤ L
theorem bestIs {ws xs ys : List Int} {c : Int} (h : edgesB xs ys c = true) (hw : wantB ws = true) : BestIs (costF ws xs ys c) (bestF (costF ws xs ys c) 4).1 (bestF (costF ws xs ys c) 4).2 := by
  have hp : ∀ i, i < 4 → 1 ≤ costF ws xs ys c i := fun i hi => (costF_in h (wantB_gap hw).2 hi).1
  obtain ⟨h1, h2, h3, h4⟩ := bestF_least hp 4 (by omega) (by omega)
  exact ⟨h1, h2, fun i hi => by rw [h2]; exact h3 i hi, fun i hi => by rw [h2]; exact h4 i hi, by rw [h2]; exact hp _ h1⟩
/-- The numbers of a known row, to be appended to another. -/
theorem news_of_ints {w : World} {b off : Nat} {xs : List Int} (h : ∀ i, i < xs.length → w.cell? ⟨b, off + i, none⟩ = some (.int .i64 (xs.getD i 0))) : ∀ j u, (xs.map (Value.int .i64))[j]? = some u → w.cell? ((⟨b, off, none⟩ : Addr).add j) = some u := fun j u hu => by
  have hadd : (⟨b, off, none⟩ : Addr).add j = ⟨b, off + j, none⟩ := by unfold Addr.add; split <;> simp_all
  obtain ⟨hj, hv⟩ := List.getElem?_eq_some_iff.1 hu
  rw [List.length_map] at hj
  rw [hadd, h j hj, ← hv, List.getD_eq_getElem?_getD, List.getElem?_eq_getElem hj]
  simp

theorem Ints.grown_off {w w' : World} {a : Option Addr} {xs : List Int} {k : Nat} {t : TypeId} (h : Ints w a xs) (hb : Blk w k #[] t) (hg : w.grownBy w' (some k)) : Ints w' a xs := by
  rcases h with h | ⟨b, off, rfl, hlt, hc⟩
  · exact .inl h
  by_cases h0 : xs = []
  · exact .inl h0
  have hpos : 0 < xs.length := List.length_pos_iff.2 h0
  have hne : b ≠ k := by
    rintro rfl
    have := hc 0 hpos
    rw [hb.cell (off + 0)] at this
    cases this
  exact .inr ⟨b, off, rfl, Nat.lt_of_lt_of_le hlt hg.size, fun i hi => by
    rw [show w'.cell? ⟨b, off + i, none⟩ = w.cell? ⟨b, off + i, none⟩ by simp only [World.cell?, hg.block b hlt (fun e => hne (Option.some.inj e))]]
    exact hc i hi⟩

set_option maxHeartbeats 3200000 in
theorem fnBestGuess_walk (a : Option Addr) (len cap : Nat) (w : World) (hc : CodeIn w a len cap) :
    Calls Try.prog 4 #[.slice a len cap] w fun e w' => e = .returned (.bool true) ∧ Below w.heap.size w w' := by
  obtain ⟨i0, hi0, hz0, hz1, hz2⟩ := info_parts infoI
  obtain ⟨hlen, hnil, hrow⟩ := hc
  obtain ⟨zs, hzl, hcv⟩ := codeV_of hrow
  have CE : Hid (∀ w', Below w.heap.size w w' → Calls Try.prog 11 #[.slice a len cap] w' fun e w'' => (∃ a1 a2 c1 c2, e = .returned (edgV a1 (dX zs).length c1 a2 (dY zs).length c2 (dC zs)) ∧ Ints w'' a1 (dX zs) ∧ Ints w'' a2 (dY zs)) ∧ Below w'.heap.size w' w'') := fun w' hb => by rw [← hzl]; exact drawEdges_val a cap w.heap.size zs w' (hcv.below hb) hb.size
  have CW : Hid (∀ w', Below w.heap.size w w' → Calls Try.prog 15 #[.slice a len cap] w' fun e w'' => (∃ p q, e = .returned (.slice p 64 q) ∧ Ints w'' p (dW zs)) ∧ Below w'.heap.size w' w'') := fun w' hb => by rw [← hzl]; exact drawWant_val a cap w.heap.size zs w' (hcv.below hb) hb.size
  have HO := d_ok zs
  have HW := dW_want zs
  have hwl := dW_len zs
  generalize dX zs = xs at *
  generalize dY zs = ys at *
  generalize dC zs = c at *
  generalize dW zs = ws at *
  have hbm : bestM ws xs ys c = (((bestF (costF ws xs ys c) 4).1 : Int), (bestF (costF ws xs ys c) 4).2) := by unfold bestM; rw [HO, HW]; rfl
  have HB : Hid (BestIs (costF ws xs ys c) (bestF (costF ws xs ys c) 4).1 (bestF (costF ws xs ys c) 4).2) := bestIs HO HW
  have CI : Hid (∀ (a0 a1 a2 : Option Addr) (c0 c1 c2 : Nat) (w' : World), Ints w' a0 ws → Ints w' a1 xs → Ints w' a2 ys → Calls Try.prog 16 #[.slice a0 64 c0, edgV a1 xs.length c1 a2 ys.length c2 c] w' fun e w'' => e = .returned (.tuple #[.int .i64 ((bestF (costF ws xs ys c) 4).1 : Int), .int .i64 (bestF (costF ws xs ys c) 4).2]) ∧ Below w'.heap.size w' w'') := fun a0 a1 a2 c0 c1 c2 w' h0 h1 h2 => by
    obtain ⟨l1, l2⟩ := edges_len HO
    have := implBestGuess a0 a1 a2 c0 c1 c2 ws xs ys c w' h0 h1 h2 (by unfold maxLen; omega) (by unfold maxLen; omega) (by unfold maxLen; omega)
    rwa [hwl, hbm] at this
  have CS : Hid (∀ (a0 a1 a2 : Option Addr) (c0 c1 c2 : Nat) (w' : World), Ints w' a0 ws → Ints w' a1 xs → Ints w' a2 ys → Calls Try.prog 17 #[.slice a0 64 c0, edgV a1 xs.length c1 a2 ys.length c2 c] w' fun e w'' => e = .returned (.tuple #[.int .i64 ((bestF (costF ws xs ys c) 4).1 : Int), .int .i64 (bestF (costF ws xs ys c) 4).2]) ∧ Below w'.heap.size w' w'') := fun a0 a1 a2 c0 c1 c2 w' h0 h1 h2 => by
    obtain ⟨l1, l2⟩ := edges_len HO
    have := specBestGuess a0 a1 a2 c0 c1 c2 ws xs ys c w' h0 h1 h2 (by unfold maxLen; omega) (by unfold maxLen; omega) (by unfold maxLen; omega)
    rwa [hwl, hbm] at this
  have CG : Hid (∀ m : Nat, m < 4 → ∀ (a1 a2 : Option Addr) (c1 c2 : Nat) (w' : World), Ints w' a1 xs → Ints w' a2 ys → Calls Try.prog 13 #[.int .i64 (m : Int), edgV a1 xs.length c1 a2 ys.length c2 c] w' fun e w'' => (∃ p q, e = .returned (.slice p 64 q) ∧ Ints w'' p (gueL (m : Int) xs ys c)) ∧ Below w'.heap.size w' w'') := fun m hm a1 a2 c1 c2 w' h1 h2 => guess_call HO hm a1 a2 c1 c2 _ _ rfl rfl w' h1 h2
  have CP : Hid (∀ m : Nat, m < 4 → ∀ (p1 p2 : Option Addr) (q1 q2 : Nat) (w' : World), Ints w' p1 ws → Ints w' p2 (gueL (m : Int) xs ys c) → Calls Try.prog 18 #[.slice p1 64 q1, .slice p2 64 q2] w' fun e w'' => e = .returned (.int .i64 (gapI ws (gueL (m : Int) xs ys c))) ∧ Below w'.heap.size w' w'') := fun m hm p1 p2 q1 q2 w' h1 h2 => by
    have := implGapOf p1 p2 q1 q2 ws (gueL (m : Int) xs ys c) w' h1 h2 (by rw [hwl]; decide) (by rw [gue_len HO hm]; decide)
    rwa [hwl, gue_len HO hm] at this
  have CU : Hid (∀ m : Nat, m < 4 → ∀ w', Calls Try.prog 19 #[.int .i64 (m : Int)] w' fun e w'' => e = .returned (.int .i64 (ueM m)) ∧ w'' = w') := fun m hm w' => ue_impl m hm w'
  have CC : Hid (∀ m : Nat, m < 4 → costF ws xs ys c m = gapI ws (gueL (m : Int) xs ys c) + ueM m ∧ (0 ≤ gapI ws (gueL (m : Int) xs ys c) ∧ gapI ws (gueL (m : Int) xs ys c) ≤ 128000) ∧ 0 ≤ ueM m ∧ ueM m ≤ 5) := fun m hm => ⟨rfl, gapI_in (wantB_gap HW).2 (gapB_gue HO (by omega) (by omega)), by unfold ueM; split <;> (try split) <;> omega, by unfold ueM; split <;> (try split) <;> omega⟩
  have HWL : Hid (ws.length = 64) := hwl
  generalize (bestF (costF ws xs ys c) 4).2 = L at *
  generalize (bestF (costF ws xs ys c) 4).1 = bm at *
  generalize costF ws xs ys c = C at *
  clear HO HW hcv hrow hzl hwl hbm
  go_enter Try.func4, Try.ntmps4
  go_wp2_with fail
  refine (big_any a len cap w hlen).mono ?_
  rintro e w0 ⟨rfl, hw⟩
  subst w0
  go_wp2_with fail
  refine (CE.out w (Below.refl _ _)).mono ?_
  rintro e w1 ⟨⟨a1, a2, c1, c2, rfl, i1, i2⟩, b1⟩
  go_wp2_with fail
  have X2 : Blk (w1.alloc (.cells #[.slice a1 xs.length c1, .slice a2 ys.length c2, .int .i64 c] 26)) w1.heap.size _ _ := Blk.new w1 _ _
  have hb2 := (Below.refl w1.heap.size w1).alloc (Nat.le_refl _) (.cells #[.slice a1 xs.length c1, .slice a2 ys.length c2, .int .i64 c] 26)
  have b2 := b1.alloc b1.size (.cells #[.slice a1 xs.length c1, .slice a2 ys.length c2, .int .i64 c] 26)
  have i12 := i1.below hb2 (Nat.le_refl _)
  have i22 := i2.below hb2 (Nat.le_refl _)
  have hs2 := hb2.size
  have hge := X2.lt
  clear hb2 i1 i2 b1
  generalize w1.heap.size = E at *
  generalize w1.alloc _ = w2 at *
  refine (CW.out w2 b2).mono ?_
  rintro e w3 ⟨⟨wp, wq, rfl, iw⟩, hb⟩
  have b3 := b2.trans (hb.mono b2.size)
  have X3 := X2.below hb X2.lt
  have i13 := i12.below hb (Nat.le_refl _)
  have i23 := i22.below hb (Nat.le_refl _)
  have hE3 := X3.lt
  clear hb X2 i12 i22 b2
  rcases iw with h0 | ⟨wb, woff, rfl, hwb, hwc⟩
  · have := HWL.out
    rw [h0] at this
    cases this
  -- what lies in memory from here on
  have HK : Hid (∀ w', Below w3.heap.size w3 w' → (w'.cell? ⟨E, 0, none⟩ = some (.slice a1 xs.length c1) ∧ w'.cell? ⟨E, 1, none⟩ = some (.slice a2 ys.length c2) ∧ w'.cell? ⟨E, 2, none⟩ = some (.int .i64 c)) ∧ (Ints w' a1 xs ∧ Ints w' a2 ys) ∧ (∀ i, i < ws.length → w'.cell? ⟨wb, woff + i, none⟩ = some (.int .i64 (ws.getD i 0))) ∧ Below w.heap.size w w') := fun w' hb =>
    ⟨(X3.below hb X3.lt).three.1, ⟨i13.below hb (Nat.le_refl _), i23.below hb (Nat.le_refl _)⟩, fun i hi => (hb.cell (p := ⟨wb, woff + i, none⟩) hwb).trans (hwc i hi), b3.trans (hb.mono b3.size)⟩
  clear X3 i13 i23 b3 hwc
  obtain ⟨⟨x0, x1, x2⟩, _, _, _⟩ := HK.out w3 (Below.refl _ _)
  go_wp2_with fail
  have lit3 : (w3.drew.alloc (.cells #[] 3)).ownsRow w3.heap.size 3 1 (.slice (some ⟨w3.heap.size, 0, none⟩) 0 0) 0 (([] : List Int).map (Value.int .i64)) := World.ownsRow_lit w3.drew #[] 0 (Nat.le_refl _) (by unfold maxLen; omega) rfl
  have hbL : Below w3.heap.size w3 (w3.drew.alloc (.cells #[] 3)) := (Below.refl w3.heap.size w3).drew.alloc (Nat.le_refl _) _
  obtain ⟨⟨z0, z1, z2⟩, _, hwcL, _⟩ := HK.out _ hbL
  have HNW : Hid (∀ j u, (ws.map (Value.int .i64))[j]? = some u → (w3.drew.alloc (.cells #[] 3)).cell? ((⟨wb, woff, none⟩ : Addr).add j) = some u) := news_of_ints hwcL
  have HLM : Hid ((ws.map (Value.int .i64)).length = 64 * 1) := by show _ = _; rw [List.length_map, HWL.out]
  have HON : Hid (∀ u ∈ ws.map (Value.int .i64), u.oneCell' = true) := fun u hu => by
    obtain ⟨x, _, rfl⟩ := List.mem_map.1 hu
    rfl
  clear hwcL
  go_cut [5, 6] from 17 to 24 (fun p q wc => p = .int .i64 (bm : Int) ∧ q = .int .i64 L ∧ Below w3.heap.size w3 wc)
  case first =>
    go_region_law (first
      | (refine step_append_lies _ (by rfl) _ _ _ (by rfl) w3.heap.size 3 i0 (.int .i64 0) 1 8 Try.underlying24 hi0 hz0 hz1 hz2 rfl (by omega) (.slice (some ⟨w3.heap.size, 0, none⟩) 0 0) 0 _ (by rfl) lit3 ⟨wb, woff, none⟩ 64 wq (ws.map (Value.int .i64)) (by rfl) HLM.out HNW.out HON.out (by omega) (by unfold maxLen; omega) (by omega) (by simp) (w3.heap.size + 1) (by simp) ?_; intro gg cp w5 hown5 hgrow hat hlt5; have hb5 : Below w3.heap.size w3 w5 := hbL.grown hgrow (by simp) (fun k hk => (lit3.lt k hk).1); have J5 : Ints w5 (some ⟨gg, 0, none⟩) ws := owned_at (xs := ws) (by rw [HWL.out]; exact hown5); obtain ⟨⟨y0, y1, y2⟩, ⟨j1, j2⟩, _, _⟩ := HK.out w5 hb5)
      | (go_simp; go_at_call 16; refine (CI.out _ _ _ _ _ _ _ J5 j1 j2).mono ?_; rintro e w6 ⟨rfl, hr⟩; have hb6 := hb5.trans (hr.mono hb5.size)))
    all_goals
      go_wp2_with fail
      go_meet
      exact ⟨rfl, rfl, hb6⟩
  case rest =>
    obtain ⟨rfl, rfl, hbc⟩ := hcut
    clear lit3 hbL z0 z1 z2 HNW HLM x0 x1 x2
    obtain ⟨_, _, _, hbw⟩ := HK.out wc hbc
    go_wp2_with fail
    refine (CW.out wc hbw).mono ?_
    rintro e w4 ⟨⟨vp, vq, rfl, iv⟩, hb⟩
    have hb4 := hbc.trans (hb.mono hbc.size)
    obtain ⟨_, _, _, hbw4⟩ := HK.out w4 hb4
    clear hb
    go_wp2_with fail
    refine (CE.out w4 hbw4).mono ?_
    rintro e w5 ⟨⟨d1, d2, f1, f2, rfl, k1, k2⟩, hb⟩
    have hb5 := hb4.trans (hb.mono hb4.size)
    have iv5 := iv.below hb (Nat.le_refl _)
    clear hb hbw4
    go_wp2_with fail
    refine (CS.out _ _ _ _ _ _ w5 iv5 k1 k2).mono ?_
    rintro e w6 ⟨rfl, hb⟩
    have hb6 := hb5.trans (hb.mono hb5.size)
    obtain ⟨B1, B2x, B3, B4, B5⟩ := HB.out
    have B2 : Hid (L = C bm) := B2x
    clear B2x
    have bm0 : (0 : Int) ≤ (bm : Int) := by omega
    have bm3 : (bm : Int) ≤ 3 := by omega
    clear hb hb5 hb4 iv iv5 k1 k2 hbw hbc
    go_wp2
    go_loopw [9] (fun i wx => ∃ m : Nat, m ≤ 4 ∧ i = .int .i64 (m : Int) ∧ Below w3.heap.size w3 wx) (fun i _ => 4 - (intOf i).toNat)
    case atStart => exact ⟨0, by omega, rfl, hb6⟩
    case round =>
      clear hb6
      obtain ⟨m, hm, rfl, hbr⟩ := hrel
      obtain ⟨⟨x0, x1, x2⟩, _, _, hbw⟩ := HK.out wr hbr
      have hsr := hbr.size
      by_cases hlm : m < 4
      · have l0 : (0 : Int) ≤ (m : Int) := by omega
        have l1 : (m : Int) < 4 := by omega
        have CGm : Hid (∀ (a1 a2 : Option Addr) (c1 c2 : Nat) (w' : World), Ints w' a1 xs → Ints w' a2 ys → Calls Try.prog 13 #[.int .i64 (m : Int), edgV a1 xs.length c1 a2 ys.length c2 c] w' fun e w'' => (∃ p q, e = .returned (.slice p 64 q) ∧ Ints w'' p (gueL (m : Int) xs ys c)) ∧ Below w'.heap.size w' w'') := fun p q r s w' => CG.out m hlm p q r s w'
        have CPm : Hid (∀ (p1 p2 : Option Addr) (q1 q2 : Nat) (w' : World), Ints w' p1 ws → Ints w' p2 (gueL (m : Int) xs ys c) → Calls Try.prog 18 #[.slice p1 64 q1, .slice p2 64 q2] w' fun e w'' => e = .returned (.int .i64 (gapI ws (gueL (m : Int) xs ys c))) ∧ Below w'.heap.size w' w'') := fun p q r s w' => CP.out m hlm p q r s w'
        have CUm : Hid (∀ w', Calls Try.prog 19 #[.int .i64 (m : Int)] w' fun e w'' => e = .returned (.int .i64 (ueM m)) ∧ w'' = w') := fun w' => CU.out m hlm w'
        obtain ⟨hcm, ⟨g0, g1⟩, u0, u1⟩ := CC.out m hlm
        have hle := B3 m hlm
        have hlt := B4 m
        have hCm : Hid (C m = gapI ws (gueL (m : Int) xs ys c) + ueM m) := hcm
        have hbe : m = bm → L = C m := fun h => by rw [h]; exact B2.out
        rw [hcm] at hle hlt hbe
        generalize gapI ws (gueL (m : Int) xs ys c) = gp at *
        generalize gueL (m : Int) xs ys c = D at *
        generalize ueM m = ue at *
        have hwr : IntKind.i64.wrap (gp + ue) = gp + ue := IntWalk.i64_in _ ⟨by omega, by omega⟩
        have litr : (wr.drew.alloc (.cells #[] 3)).ownsRow wr.heap.size 3 1 (.slice (some ⟨wr.heap.size, 0, none⟩) 0 0) 0 (([] : List Int).map (Value.int .i64)) := World.ownsRow_lit wr.drew #[] 0 (Nat.le_refl _) (by unfold maxLen; omega) rfl
        have blkr : Blk (wr.drew.alloc (.cells #[] 3)) wr.heap.size #[] 3 := Blk.new wr.drew _ _
        have hbD : Below wr.heap.size wr wr.drew := (Below.refl wr.heap.size wr).drew
        have hbA : Below wr.heap.size wr (wr.drew.alloc (.cells #[] 3)) := hbD.alloc (Nat.le_refl _) _
        obtain ⟨_, ⟨jd1, jd2⟩, _, _⟩ := HK.out _ (hbr.trans (hbD.mono hsr))
        obtain ⟨⟨z0, z1, z2⟩, ⟨jz1, jz2⟩, hwcA, _⟩ := HK.out _ (hbr.trans (hbA.mono hsr))
        have zz0 : (wr.alloc (.cells #[] 3)).cell? ⟨E, 0, none⟩ = some (.slice a1 xs.length c1) := z0
        have zz1 : (wr.alloc (.cells #[] 3)).cell? ⟨E, 1, none⟩ = some (.slice a2 ys.length c2) := z1
        have zz2 : (wr.alloc (.cells #[] 3)).cell? ⟨E, 2, none⟩ = some (.int .i64 c) := z2
        have NWA : Hid (∀ j u, (ws.map (Value.int .i64))[j]? = some u → (wr.drew.alloc (.cells #[] 3)).cell? ((⟨wb, woff, none⟩ : Addr).add j) = some u) := news_of_ints hwcA
        have HLM : Hid ((ws.map (Value.int .i64)).length = 64 * 1) := by show _ = _; rw [List.length_map, HWL.out]
        clear hwcA
        go_wp2_with fail
        go_cut [10] from 57 to 66 (fun p wc => p = .int .i64 (gp + ue) ∧ Below wr.heap.size wr wc)
        case first =>
          go_region_law (first
            | (refine step_append_lies _ (by rfl) _ _ _ (by rfl) wr.heap.size 3 i0 (.int .i64 0) 1 8 Try.underlying24 hi0 hz0 hz1 hz2 rfl (by omega) (.slice (some ⟨wr.heap.size, 0, none⟩) 0 0) 0 _ (by rfl) litr ⟨wb, woff, none⟩ 64 wq (ws.map (Value.int .i64)) (by rfl) HLM.out NWA.out HON.out (by omega) (by unfold maxLen; omega) (by omega) (by simp) (wr.heap.size + 1) (by simp) ?_; intro gg cp w5 hown5 hgrow hat hlt5; have hb5 : Below wr.heap.size wr w5 := hbA.grown hgrow (by simp) (fun k hk => (litr.lt k hk).1); have J5 : Ints w5 (some ⟨gg, 0, none⟩) ws := owned_at (xs := ws) (by rw [HWL.out]; exact hown5); obtain ⟨⟨y0, y1, y2⟩, ⟨jg1, jg2⟩, _, _⟩ := HK.out w5 (hbr.trans (hb5.mono hsr)))
            | (refine step_append_lies _ (by rfl) _ _ _ (by rfl) wr.heap.size 3 i0 (.int .i64 0) 1 8 Try.underlying24 hi0 hz0 hz1 hz2 rfl (by omega) (.slice (some ⟨wr.heap.size, 0, none⟩) 0 0) 0 _ (by rfl) (owned_below litr hrZ) ⟨wb, woff, none⟩ 64 wq (ws.map (Value.int .i64)) (by rfl) HLM.out NW7.out HON.out (by omega) (by unfold maxLen; omega) (by omega) hb7.size w7.heap.size rfl ?_; intro gg cp w5 hown5 hgrow hat hlt5; have hbK : Below wr.heap.size wr w5 := hb7.grown hgrow hb7.size (fun k hk => (litr.lt k hk).1); have K5 : Ints w5 (some ⟨gg, 0, none⟩) ws := owned_at (xs := ws) (by rw [HWL.out]; exact hown5); have K7 := J7.grown_off (blkr.below hrZ blkr.lt) hgrow)
            | (refine step_append_lies _ (by rfl) _ _ _ (by rfl) w7.heap.size 3 i0 (.int .i64 0) 1 8 Try.underlying24 hi0 hz0 hz1 hz2 rfl (by omega) (.slice (some ⟨w7.heap.size, 0, none⟩) 0 0) 0 _ (by rfl) lit7 ⟨wb, woff, none⟩ 64 wq (ws.map (Value.int .i64)) (by rfl) HLM.out NW7A.out HON.out (by omega) (by unfold maxLen; omega) (by omega) (by simp) (w7.heap.size + 1) (by simp) ?_; intro gg cp w5 hown5 hgrow hat hlt5; have hbK : Below wr.heap.size wr w5 := (hb7.alloc hb7.size (.cells #[] 3)).grown hgrow (Nat.le_trans hb7.size (by simp)) (fun k hk => Nat.le_trans hb7.size (lit7.lt k hk).1); have K5 : Ints w5 (some ⟨gg, 0, none⟩) ws := owned_at (xs := ws) (by rw [HWL.out]; exact hown5); have K7 := (J7.below ((Below.refl w7.heap.size w7).alloc (Nat.le_refl _) (.cells #[] 3)) (Nat.le_refl _)).grown_off (Blk.new w7 _ _) hgrow)
            | (go_simp; go_at_call 13; refine (CGm.out _ _ _ _ _ jg1 jg2).mono ?_; rintro e w7 ⟨⟨dp, dq, rfl, K7⟩, hr⟩; have hbK : Below wr.heap.size wr w7 := hb5.trans (hr.mono hb5.size); have K5 := J5.below hr (Nat.le_refl _))
            | (go_simp; go_at_call 13; refine (CGm.out _ _ _ _ _ jz1 jz2).mono ?_; rintro e w7 ⟨⟨dp, dq, rfl, J7⟩, hrZ⟩; have hb7 : Below wr.heap.size wr w7 := hbA.trans (hrZ.mono hbA.size); have NW7 : Hid (∀ j u, (ws.map (Value.int .i64))[j]? = some u → w7.cell? ((⟨wb, woff, none⟩ : Addr).add j) = some u) := news_of_ints (HK.out _ (hbr.trans (hb7.mono hsr))).2.2.1)
            | (go_simp; go_at_call 13; refine (CGm.out _ _ _ _ _ jd1 jd2).mono ?_; rintro e w7 ⟨⟨dp, dq, rfl, J7⟩, hrD⟩; have hb7 : Below wr.heap.size wr w7 := hbD.trans hrD; have lit7 : (w7.alloc (.cells #[] 3)).ownsRow w7.heap.size 3 1 (.slice (some ⟨w7.heap.size, 0, none⟩) 0 0) 0 (([] : List Int).map (Value.int .i64)) := World.ownsRow_lit w7 #[] 0 (Nat.le_refl _) (by unfold maxLen; omega) rfl; have NW7A : Hid (∀ j u, (ws.map (Value.int .i64))[j]? = some u → (w7.alloc (.cells #[] 3)).cell? ((⟨wb, woff, none⟩ : Addr).add j) = some u) := news_of_ints (HK.out _ (hbr.trans ((hb7.alloc hb7.size (.cells #[] 3)).mono hsr))).2.2.1)
            | (go_simp; go_at_call 18; refine (CPm.out _ _ _ _ _ K5 K7).mono ?_; rintro e w8 ⟨rfl, hr8⟩; have hb8 := hbK.trans (hr8.mono hbK.size))
            | (go_simp; go_at_call 19; refine (CUm.out _).mono ?_; rintro e w9 ⟨rfl, hw⟩; subst w9))
          all_goals
            go_wp2_with fail
            go_meet
            exact ⟨by first | rfl | rw [hwr] | simp [hwr], hb8⟩
        case rest =>
          obtain ⟨rfl, hbk⟩ := hcut
          have hbn := hbr.trans (hbk.mono hsr)
          clear litr blkr hbD hbA jd1 jd2 z0 z1 z2 zz0 zz1 zz2 jz1 jz2 NWA HLM x0 x1 x2 CGm CPm CUm hCm B3 B4
          have q1 : ¬ gp + ue < L := by omega
          rcases Nat.lt_trichotomy m bm with h | h | h
          · have q2 := hlt h
            have q3 : ¬ gp + ue = L := by omega
            have q4 : ¬ (m : Int) = (bm : Int) := by omega
            have q5 : ((m : Int) == (bm : Int)) = false := by rw [beq_eq_false_iff_ne]; exact q4
            have q6 : (gp + ue == L) = false := by rw [beq_eq_false_iff_ne]; exact q3
            go_wp2
            exact ⟨⟨m + 1, by omega, by go_num, hbn⟩, by simp [intOf]; omega⟩
          · have q2 := hbe h
            have q4 : (m : Int) = (bm : Int) := by omega
            go_wp2
            exact ⟨⟨m + 1, by omega, by go_num, hbn⟩, by simp [intOf]; omega⟩
          · have q4 : ¬ (m : Int) = (bm : Int) := by omega
            have q5 : ((m : Int) == (bm : Int)) = false := by rw [beq_eq_false_iff_ne]; exact q4
            have q7 : ¬ (m : Int) < (bm : Int) := by omega
            by_cases q3 : gp + ue = L
            · go_wp2
              exact ⟨⟨m + 1, by omega, by go_num, hbn⟩, by simp [intOf]; omega⟩
            · have q6 : (gp + ue == L) = false := by rw [beq_eq_false_iff_ne]; exact q3
              go_wp2
              exact ⟨⟨m + 1, by omega, by go_num, hbn⟩, by simp [intOf]; omega⟩
      · obtain rfl : m = 4 := by omega
        go_wp2
        go_ret
        exact ⟨rfl, hbw⟩
end Go.Proofs.Ythmcedfkfoagdaa
