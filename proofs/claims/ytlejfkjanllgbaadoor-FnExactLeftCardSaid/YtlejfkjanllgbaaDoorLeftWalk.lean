/-
  The walk of laws.FnExactLeft: drawn differences come back whole from exact levels, and no more than half a step off from large ones.
-/
import Derived.Test.YtlejfkjanllgbaaDoorLeftTopsAll
import Derived.Test.YtlejfkjanllgbaaDoorLeftKit
import Derived.Test.YtlejfkjanllgbaaDoorCondDraw
import Derived.Test.YtlejfkjanllgbaaDoorDrawDiffs
import Derived.Test.YtlejfkjanllgbaaDoorSameOne
import Derived.Test.YtlejfkjanllgbaaDoorCodeVal
import Derived.Deep.RegionLaw
import Derived.Deep.CutRange
import Derived.Deep.AppendLies
namespace Go.Proofs.YtlejfkjanllgbaaDoor
open Go.RowKit
set_option linter.unusedVariables false
set_option maxRecDepth 20000

theorem inB_ofL {M : Int} {l : List Int} (h : ∀ x ∈ l, -M ≤ x ∧ x ≤ M) : inB M l = true := by
  unfold inB
  rw [List.all_eq_true]
  intro x hx
  have := h x hx
  simp [this.1, this.2]
/-- What the law asks of 64 differences, as facts of lists. -/
theorem left_facts {xs : List Int} {q : Int} (hl : xs.length = 64) (hx : inB 255 xs = true) (hq : 0 ≤ q ∧ q ≤ 40) :
    (levL q false true xs).length = 64 ∧ lvB 255 q false true xs = true ∧ lvB 5000 q false true (levL q false true xs) = true ∧ lbkL q false true (levL q false true xs) = xs ∧
    (levL q true false xs).length = 64 ∧ lvB 255 q true false xs = true ∧ lvB 5000 q true false (levL q true false xs) = true ∧ (lbkL q true false (levL q true false xs)).length = 64 ∧
    ∀ i, i < 64 → -(stepF q / 2) ≤ (lbkL q true false (levL q true false xs)).getD i 0 - xs.getD i 0 ∧ (lbkL q true false (levL q true false xs)).getD i 0 - xs.getD i 0 ≤ stepF q / 2 := by
  have hs : sqB 255 xs = true := sqB_iff.2 ⟨hl, hx⟩
  have hb := sqB_at hs
  have p1 : parB q false true = true := by unfold parB; simp; omega
  have p2 : parB q true false = true := by unfold parB; simp; omega
  have v1 : lvB 255 q false true xs = true := lvB_iff.2 ⟨p1, hs⟩
  have v2 : lvB 255 q true false xs = true := lvB_iff.2 ⟨p2, hs⟩
  obtain ⟨n1, n2⟩ := large_back hb hq
  have s1 : sqB 5000 (levL q false true xs) = true := by
    rw [levL_yes v1]
    refine sqB_iff.2 ⟨listF_length _ _, inB_allF fun i hi => ?_⟩
    rw [levF_exact]
    have := hb _ (scF_lt (.inr rfl : SideOk 8) hi)
    show -5000 ≤ xs.getD (scF 8 i) 0 ∧ xs.getD (scF 8 i) 0 ≤ 5000
    omega
  have s2 : sqB 5000 (levL q true false xs) = true := by
    rw [levL_yes v2]
    exact sqB_iff.2 ⟨listF_length _ _, inB_allF fun i hi => n1 i hi⟩
  have u1 : lvB 5000 q false true (levL q false true xs) = true := lvB_iff.2 ⟨p1, s1⟩
  have u2 : lvB 5000 q true false (levL q true false xs) = true := lvB_iff.2 ⟨p2, s2⟩
  refine ⟨by rw [levL_yes v1, listF_length], v1, u1, ?_, by rw [levL_yes v2, listF_length], v2, u2, by rw [lbkL_yes u2, listF_length], fun i hi => ?_⟩
  · rw [lbkL_yes u1, levL_yes v1]
    refine (listF_congr fun i hi => ?_).trans ((congrArg (fun n => listF n (fun i => xs.getD i 0)) hl.symm).trans (listF_self xs))
    have hk := ((bk_facts (.inr rfl : SideOk 8)).2 i hi)
    rw [bakF_exact]
    show (listF 64 (levF q false true fun i => xs.getD i 0)).getD (bkF 8 i) 0 = xs.getD i 0
    rw [listF_get _ hk.1, levF_exact]
    show xs.getD (scF 8 (bkF 8 i)) 0 = xs.getD i 0
    rw [hk.2]
  · rw [lbkL_yes u2, listF_get _ hi, levL_yes v2]
    have e : bakF q true false (fun i => (listF 64 (levF q true false fun i => xs.getD i 0)).getD i 0) i = bakF q true false (fun k => levF q true false (fun i => xs.getD i 0) k) i := by
      rw [bakF_large, bakF_large]
      unfold lrbF
      rw [show eightF (fun i => largeB ((listF 64 (levF q true false fun i => xs.getD i 0)).getD (bkF 8 i) 0) q) i = eightF (fun i => largeB (levF q true false (fun i => xs.getD i 0) (bkF 8 i)) q) i from crossF_congr (crossF_congr fun j hj => by
        show largeB ((listF 64 (levF q true false fun i => xs.getD i 0)).getD (bkF 8 j) 0) q = largeB (levF q true false (fun i => xs.getD i 0) (bkF 8 j)) q
        rw [listF_get _ ((bk_facts (.inr rfl : SideOk 8)).2 j hj).1]) i hi]
    rw [e]
    exact n2 i hi

set_option maxHeartbeats 6400000 in
theorem fnExactLeft_walk (a : Option Addr) (len cap : Nat) (w : World) (tsc : TabC w 0 scL) (tsh : TabC w 2 shL) (tkd : TabC w 1 kdL) (hcode : 1048576 < (len : Int) ∨ CodeIn w a len cap) :
    Calls Tryd.prog 3 #[.slice a len cap] w fun e w' => e = .returned (.bool true) ∧ Below w.heap.size w w' := by
  obtain ⟨i0, hi0, hz0, hz1, hz2⟩ := info_parts infoI
  rcases hcode with hbig | hcode
  · have CB : Hid (Calls Tryd.prog 7 #[.slice a len cap] w fun e w' => e = .returned (.bool true) ∧ w' = w) := big_yes a len cap w hbig
    clear tsc tsh tkd hbig
    go_enter Tryd.func3, Tryd.ntmps3
    go_wp2_with (go_at_call 7; refine CB.out.mono ?_; rintro e w2 ⟨rfl, hw⟩; subst w2)
    go_ret
    exact ⟨rfl, Below.refl _ _⟩
  have HT : Hid (∀ w', Below w.heap.size w w' → Tabs w') := fun w' hb => (show Tabs w from ⟨tsc, tsh, tkd⟩).below hb
  clear tsc tsh tkd
  obtain ⟨hlen, hnil, hrow⟩ := hcode
  obtain ⟨zs, hzl, hcv⟩ := codeV_of hrow
  have CD : Hid (Calls Tryd.prog 8 #[.slice a len cap, .int .i64 64, .int .i64 255] w fun e w' => ∃ (g c : Nat) (l : List Int), e = .returned (.slice (some ⟨g, 0, none⟩) 64 c) ∧ l.length = 64 ∧ (∀ x ∈ l, -255 ≤ x ∧ x ≤ 255) ∧ w'.ownsRow w.heap.size 3 1 (.slice (some ⟨g, 0, none⟩) 64 c) 64 (l.map (Value.int .i64)) ∧ Below w.heap.size w w') := drawDiffs_any a len cap w.heap.size 64 255 w hrow (Nat.le_refl _) (by omega) (by omega) (by omega)
  have CC : Hid (∀ w', Below w.heap.size w w' → Calls Tryd.prog 9 #[.slice a len cap] w' fun e w'' => (∃ k q g x, e = .returned (conV k q g x) ∧ parB q g x = true) ∧ Below w'.heap.size w' w'') := fun w' hb => by
    have := drawCond_any a cap w.heap.size zs w' (hcv.below hb) hb.size
    rwa [hzl] at this
  clear hcv hrow hzl hnil
  go_enter Tryd.func3, Tryd.ntmps3
  go_wp2_with fail
  refine (big_any a len cap w hlen).mono ?_
  rintro e w0 ⟨rfl, hw⟩
  subst w0
  go_wp2_with fail
  refine CD.out.mono ?_
  rintro e w1 ⟨sb1, sc1, xs, rfl, hxl, hxb, hown, hb1⟩
  have ix1 : Ints w1 (some ⟨sb1, 0, none⟩) xs := owned_at (xs := xs) (by rw [hxl]; exact hown)
  have hxin := inB_ofL hxb
  clear CD hown hxb hlen
  go_wp2_with fail
  refine (CC.out w1 hb1).mono ?_
  rintro e w2 ⟨⟨k, q, g, x, rfl, hp⟩, hc⟩
  have hb2 := hb1.trans (hc.mono hb1.size)
  have ix2 := ix1.below hc (Nat.le_refl _)
  have hq : 0 ≤ q ∧ q ≤ 40 := by unfold parB at hp; simp at hp; omega
  clear hc hb1 ix1 CC hp
  obtain ⟨la, va, ua, ba, lb, vb, ub, lc, nr⟩ := left_facts hxl hxin hq
  have hst := stepF_in q hq
  have C1 : Hid (∀ (p : Option Addr) (c : Nat) (w' : World), Below w.heap.size w w' → Ints w' p xs → 64 ≤ c → Calls Tryd.prog 10 #[.slice p 64 c, conV k q false true] w' fun e w'' => (∃ p' c', e = .returned (.tuple #[.slice p' 64 c', .bool true]) ∧ Ints w'' p' (levL q false true xs)) ∧ Below w'.heap.size w' w'') := fun p c w' hb hi hc => by
    have := implLevelsOf p c xs k q false true w' hi (by rw [hxl]; decide) (by omega) (HT.out w' hb)
    rw [va, hxl] at this
    refine this.mono ?_
    rintro e w'' ⟨⟨v, rfl, ho⟩, hc⟩
    obtain ⟨p', c', rfl, h1, _⟩ := ints_of_owns ho
    exact ⟨⟨p', c', by rw [la], h1⟩, hc⟩
  have C2 : Hid (∀ (p : Option Addr) (c : Nat) (w' : World), Below w.heap.size w w' → Ints w' p (levL q false true xs) → 64 ≤ c → Calls Tryd.prog 11 #[.slice p 64 c, conV k q false true] w' fun e w'' => (∃ p' c', e = .returned (.tuple #[.slice p' 64 c', .bool true]) ∧ Ints w'' p' xs) ∧ Below w'.heap.size w' w'') := fun p c w' hb hi hc => by
    have := implLevelsBack p c (levL q false true xs) k q false true w' hi (by rw [la]; decide) (by omega) (HT.out w' hb)
    rw [ua, la, ba] at this
    refine this.mono ?_
    rintro e w'' ⟨⟨v, rfl, ho⟩, hc⟩
    obtain ⟨p', c', rfl, h1, _⟩ := ints_of_owns ho
    exact ⟨⟨p', c', by rw [hxl], h1⟩, hc⟩
  have C3 : Hid (∀ (p : Option Addr) (c : Nat) (w' : World), Below w.heap.size w w' → Ints w' p xs → 64 ≤ c → Calls Tryd.prog 10 #[.slice p 64 c, conV k q true false] w' fun e w'' => (∃ p' c', e = .returned (.tuple #[.slice p' 64 c', .bool true]) ∧ Ints w'' p' (levL q true false xs)) ∧ Below w'.heap.size w' w'') := fun p c w' hb hi hc => by
    have := implLevelsOf p c xs k q true false w' hi (by rw [hxl]; decide) (by omega) (HT.out w' hb)
    rw [vb, hxl] at this
    refine this.mono ?_
    rintro e w'' ⟨⟨v, rfl, ho⟩, hc⟩
    obtain ⟨p', c', rfl, h1, _⟩ := ints_of_owns ho
    exact ⟨⟨p', c', by rw [lb], h1⟩, hc⟩
  have C4 : Hid (∀ (p : Option Addr) (c : Nat) (w' : World), Below w.heap.size w w' → Ints w' p (levL q true false xs) → 64 ≤ c → Calls Tryd.prog 11 #[.slice p 64 c, conV k q true false] w' fun e w'' => (∃ p' c', e = .returned (.tuple #[.slice p' 64 c', .bool true]) ∧ Ints w'' p' (lbkL q true false (levL q true false xs))) ∧ Below w'.heap.size w' w'') := fun p c w' hb hi hc => by
    have := implLevelsBack p c (levL q true false xs) k q true false w' hi (by rw [lb]; decide) (by omega) (HT.out w' hb)
    rw [ub, lb] at this
    refine this.mono ?_
    rintro e w'' ⟨⟨v, rfl, ho⟩, hc⟩
    obtain ⟨p', c', rfl, h1, _⟩ := ints_of_owns ho
    exact ⟨⟨p', c', by rw [lc], h1⟩, hc⟩
  have CS : Hid (∀ (p p' : Option Addr) (c c' : Nat) (w' : World), Ints w' p xs → Ints w' p' xs → Calls Tryd.prog 12 #[.slice p 64 c, .slice p' 64 c'] w' fun e w'' => e = .returned (.bool true) ∧ Below w'.heap.size w' w'') := fun p p' c c' w' h1 h2 => by
    have := sameInts_any p p' c c' xs w' h1 h2 (by rw [hxl]; decide)
    rwa [hxl] at this
  have HSt : Hid (∀ w', Below w.heap.size w w' → Calls Tryd.prog 13 #[.int .i64 q] w' fun e w'' => e = .returned (.int .i64 (stepF q)) ∧ w'' = w') := fun w' hb => implStepOf q w' (HT.out w' hb).1
  generalize hLA : levL q false true xs = LA at *
  generalize hLB : levL q true false xs = LB at *
  generalize hLC : lbkL q true false LB = LC at *
  generalize stepF q = st at *
  have HN : Hid (∀ i, i < 64 → -(st / 2) ≤ LC.getD i 0 - xs.getD i 0 ∧ LC.getD i 0 - xs.getD i 0 ≤ st / 2) := nr
  have HXB : Hid (∀ i, i < 64 → -255 ≤ xs.getD i 0 ∧ xs.getD i 0 ≤ 255) := fun i hi => inB_iff.1 hxin i (by omega)
  have LS1 : Hid (xs.length = 64) := hxl
  have LS2 : Hid (LA.length = 64) := la
  have LS4 : Hid (LB.length = 64) := lb
  have LS5 : Hid (LC.length = 64) := lc
  have LN1 : Hid ((xs.map (Value.int .i64)).length = 64 * 1) := by show _ = _; rw [List.length_map, hxl]
  have LN2 : Hid ((LA.map (Value.int .i64)).length = 64 * 1) := by show _ = _; rw [List.length_map, la]
  have LN4 : Hid ((LB.map (Value.int .i64)).length = 64 * 1) := by show _ = _; rw [List.length_map, lb]
  have LN3 : Hid ((xs.map (Value.int .i64)).length = 64 * 1) := LN1
  have LS3 : Hid (xs.length = 64) := LS1
  clear la va ua ba lb vb ub lc nr hxl hxin hLA hLB hLC HT
  -- the condition's block, and what is stored into it
  have bC0 := Blk.new w2 #[.bool k, .int .i64 q, .bool g, .bool x] 27
  have hcC0 := (Below.refl w2.heap.size w2).alloc (Nat.le_refl _) (.cells #[.bool k, .int .i64 q, .bool g, .bool x] 27)
  obtain ⟨⟨y0, y1, y2, y3⟩, n0, n1, n2, n3⟩ := bC0.four
  have bC := Blk.new w2 #[.bool k, .int .i64 q, .bool false, .bool true] 27
  have hcC := (Below.refl w2.heap.size w2).alloc (Nat.le_refl _) (.cells #[.bool k, .int .i64 q, .bool false, .bool true] 27)
  go_wp2_with fail
  clear bC0 hcC0 y0 y1 y2 y3 n0 n1 n2 n3
  generalize World.alloc w2 (.cells #[.bool k, .int .i64 q, .bool false, .bool true] 27) = W1 at *
  generalize hgc : w2.heap.size = gC at *
  have hgw : w.heap.size ≤ gC := by rw [← hgc]; exact hb2.size
  have HK1 : Hid (∀ w', Below W1.heap.size W1 w' → (w'.cell? ⟨gC, 0, none⟩ = some (.bool k) ∧ w'.cell? ⟨gC, 1, none⟩ = some (.int .i64 q) ∧ w'.cell? ⟨gC, 2, none⟩ = some (.bool false) ∧ w'.cell? ⟨gC, 3, none⟩ = some (.bool true)) ∧ Ints w' (some ⟨sb1, 0, none⟩) xs ∧ Below w.heap.size w w') := fun w' h => by
    have h2 : Below gC w2 w' := hcC.trans (h.mono (Nat.le_of_lt bC.lt))
    exact ⟨(bC.below h bC.lt).four.1, ix2.below h2 (by omega), hb2.trans (h2.mono hgw)⟩
  -- LevelsOf
  have lit1 : ((W1.alloc (.cells #[] 3)).drew).ownsRow W1.heap.size 3 1 (.slice (some ⟨W1.heap.size, 0, none⟩) 0 0) 0 (([] : List Int).map (Value.int .i64)) := World.ownsRow_lit W1.drew #[] 0 (Nat.le_refl _) (by unfold maxLen; omega) rfl
  have hbA1 : Below W1.heap.size W1 (W1.alloc (.cells #[] 3)) := (Below.refl W1.heap.size W1).alloc (Nat.le_refl _) _
  have hbL1 : Below W1.heap.size W1 ((W1.alloc (.cells #[] 3)).drew) := hbA1.drew
  obtain ⟨⟨x0, x1, x2, x3⟩, _, _⟩ := HK1.out W1 (Below.refl _ _)
  obtain ⟨⟨z0, z1, z2, z3⟩, _, _⟩ := HK1.out _ hbA1
  obtain ⟨_, iz, _⟩ := HK1.out _ hbL1
  have NW1 := news_of_list iz
  clear iz
  go_wp2_with fail
  go_cut [5, 6] from 23 to 30 (fun u v wc => ∃ p c, u = .slice p 64 c ∧ v = .bool true ∧ Ints wc p LA ∧ Below W1.heap.size W1 wc)
  case first =>
    go_region_law (first
      | (refine step_append_lies _ (by rfl) _ _ _ (by rfl) W1.heap.size 3 i0 (.int .i64 0) 1 8 Tryd.underlying24 hi0 hz0 hz1 hz2 rfl (by omega) (.slice (some ⟨W1.heap.size, 0, none⟩) 0 0) 0 _ (by rfl) lit1 ⟨sb1, 0, none⟩ 64 sc1 (xs.map (Value.int .i64)) (by rfl) LN1.out NW1 (ones_of_list _) (by omega) (by unfold maxLen; omega) (by omega) (by simp) (W1.heap.size + 1) (by simp) ?_; intro gg cp w5 hown5 hgrow hat hlt5; have hb5 : Below W1.heap.size W1 w5 := hbL1.grown hgrow (by simp) (fun k hk => (lit1.lt k hk).1); have J5 : Ints w5 (some ⟨gg, 0, none⟩) xs := owned_at (xs := xs) (by rw [LS1.out]; exact hown5); have hcp := owned_cap hown5; obtain ⟨⟨y0, y1, y2, y3⟩, _, hbw5⟩ := HK1.out w5 hb5)
      | (go_simp; go_at_call 10; refine (C1.out _ _ w5 hbw5 J5 (by omega)).mono ?_; rintro e w6 ⟨⟨p6, c6, rfl, i6⟩, hr⟩; have hb6 := hb5.trans (hr.mono hb5.size)))
    all_goals
      go_wp2_with fail
      go_meet
      exact ⟨_, _, rfl, rfl, i6, hb6⟩
  case rest =>
  obtain ⟨p1, c1, rfl, rfl, i1, hbc1⟩ := hcut
  clear lit1 hbA1 hbL1 NW1 x0 x1 x2 x3 z0 z1 z2 z3
  generalize wc = W2 at *
  have bC2 := bC.below hbc1 bC.lt
  have hc2 : Below gC w2 W2 := hcC.trans (hbc1.mono (Nat.le_of_lt bC.lt))
  rcases i1 with h0 | ⟨sb2, so2, hp1, hs2, hs2c⟩
  · have := LS2.out
    rw [h0] at this
    cases this
  subst hp1
  have HK2 : Hid (∀ w', Below W2.heap.size W2 w' → (w'.cell? ⟨gC, 0, none⟩ = some (.bool k) ∧ w'.cell? ⟨gC, 1, none⟩ = some (.int .i64 q) ∧ w'.cell? ⟨gC, 2, none⟩ = some (.bool false) ∧ w'.cell? ⟨gC, 3, none⟩ = some (.bool true)) ∧ Ints w' (some ⟨sb2, so2, none⟩) LA ∧ Below w.heap.size w w') := fun w' h => by
    have h2 : Below gC w2 w' := hc2.trans (h.mono (Nat.le_of_lt bC2.lt))
    exact ⟨(bC2.below h bC2.lt).four.1, .inr ⟨sb2, so2, rfl, Nat.lt_of_lt_of_le hs2 h.size, fun i hi => (h.cell (p := ⟨sb2, so2 + i, none⟩) hs2).trans (hs2c i hi)⟩, hb2.trans (h2.mono hgw)⟩
  clear hbc1 bC hcC HK1 hs2 hs2c C1
  -- LevelsBack
  have lit2 : ((W2.alloc (.cells #[] 3)).drew).ownsRow W2.heap.size 3 1 (.slice (some ⟨W2.heap.size, 0, none⟩) 0 0) 0 (([] : List Int).map (Value.int .i64)) := World.ownsRow_lit W2.drew #[] 0 (Nat.le_refl _) (by unfold maxLen; omega) rfl
  have hbA2 : Below W2.heap.size W2 (W2.alloc (.cells #[] 3)) := (Below.refl W2.heap.size W2).alloc (Nat.le_refl _) _
  have hbL2 : Below W2.heap.size W2 ((W2.alloc (.cells #[] 3)).drew) := hbA2.drew
  obtain ⟨⟨x0, x1, x2, x3⟩, _, _⟩ := HK2.out W2 (Below.refl _ _)
  obtain ⟨⟨z0, z1, z2, z3⟩, _, _⟩ := HK2.out _ hbA2
  obtain ⟨_, iz, _⟩ := HK2.out _ hbL2
  have NW2 := news_of_list iz
  clear iz
  go_wp2_with fail
  go_cut [7, 8] from 31 to 38 (fun u v wc => ∃ p c, u = .slice p 64 c ∧ v = .bool true ∧ Ints wc p xs ∧ Below W2.heap.size W2 wc)
  case first =>
    go_region_law (first
      | (refine step_append_lies _ (by rfl) _ _ _ (by rfl) W2.heap.size 3 i0 (.int .i64 0) 1 8 Tryd.underlying24 hi0 hz0 hz1 hz2 rfl (by omega) (.slice (some ⟨W2.heap.size, 0, none⟩) 0 0) 0 _ (by rfl) lit2 ⟨sb2, so2, none⟩ 64 c1 (LA.map (Value.int .i64)) (by rfl) LN2.out NW2 (ones_of_list _) (by omega) (by unfold maxLen; omega) (by omega) (by simp) (W2.heap.size + 1) (by simp) ?_; intro gg cp w5 hown5 hgrow hat hlt5; have hb5 : Below W2.heap.size W2 w5 := hbL2.grown hgrow (by simp) (fun k hk => (lit2.lt k hk).1); have J5 : Ints w5 (some ⟨gg, 0, none⟩) LA := owned_at (xs := LA) (by rw [LS2.out]; exact hown5); have hcp := owned_cap hown5; obtain ⟨⟨y0, y1, y2, y3⟩, _, hbw5⟩ := HK2.out w5 hb5)
      | (go_simp; go_at_call 11; refine (C2.out _ _ w5 hbw5 J5 (by omega)).mono ?_; rintro e w6 ⟨⟨p6, c6, rfl, i6⟩, hr⟩; have hb6 := hb5.trans (hr.mono hb5.size)))
    all_goals
      go_wp2_with fail
      go_meet
      exact ⟨_, _, rfl, rfl, i6, hb6⟩
  case rest =>
  obtain ⟨p2, c2, rfl, rfl, i2, hbc2⟩ := hcut
  clear lit2 hbA2 hbL2 NW2 x0 x1 x2 x3 z0 z1 z2 z3
  generalize wc = W3 at *
  have bC3 := bC2.below hbc2 bC2.lt
  have hc3 : Below gC w2 W3 := hc2.trans (hbc2.mono (Nat.le_of_lt bC2.lt))
  clear hbc2 bC2 hc2 HK2 C2
  go_wp2_with fail
  refine (CS.out _ _ _ _ W3 i2 (ix2.below hc3 (by omega))).mono ?_
  rintro e W4 ⟨rfl, hc⟩
  have bC4 := bC3.below hc bC3.lt
  have hc4 : Below gC w2 W4 := hc3.trans (hc.mono (Nat.le_of_lt bC3.lt))
  clear hc bC3 hc3 i2 CS
  obtain ⟨⟨y0, y1, y2, y3⟩, n0, n1, n2, n3⟩ := bC4.four
  have bD : Blk _ gC #[.bool k, .int .i64 q, .bool true, .bool false] 27 := (bC4.set 2 (.bool true) (by simp)).set 3 (.bool false) (by simp)
  have hcD := (hc4.setCell (p := ⟨gC, 2, none⟩) (Nat.le_refl _) (.bool true)).setCell (p := ⟨gC, 3, none⟩) (Nat.le_refl _) (.bool false)
  go_wp2_with fail
  clear bC4 hc4 y0 y1 y2 y3 n0 n1 n2 n3
  generalize World.setCell _ _ _ = W5 at *
  have HK3 : Hid (∀ w', Below W5.heap.size W5 w' → (w'.cell? ⟨gC, 0, none⟩ = some (.bool k) ∧ w'.cell? ⟨gC, 1, none⟩ = some (.int .i64 q) ∧ w'.cell? ⟨gC, 2, none⟩ = some (.bool true) ∧ w'.cell? ⟨gC, 3, none⟩ = some (.bool false)) ∧ Ints w' (some ⟨sb1, 0, none⟩) xs ∧ Below w.heap.size w w') := fun w' h => by
    have h2 : Below gC w2 w' := hcD.trans (h.mono (Nat.le_of_lt bD.lt))
    exact ⟨(bD.below h bD.lt).four.1, ix2.below h2 (by omega), hb2.trans (h2.mono hgw)⟩
  -- LevelsOf
  have lit3 : ((W5.alloc (.cells #[] 3)).drew).ownsRow W5.heap.size 3 1 (.slice (some ⟨W5.heap.size, 0, none⟩) 0 0) 0 (([] : List Int).map (Value.int .i64)) := World.ownsRow_lit W5.drew #[] 0 (Nat.le_refl _) (by unfold maxLen; omega) rfl
  have hbA3 : Below W5.heap.size W5 (W5.alloc (.cells #[] 3)) := (Below.refl W5.heap.size W5).alloc (Nat.le_refl _) _
  have hbL3 : Below W5.heap.size W5 ((W5.alloc (.cells #[] 3)).drew) := hbA3.drew
  obtain ⟨⟨x0, x1, x2, x3⟩, _, _⟩ := HK3.out W5 (Below.refl _ _)
  obtain ⟨⟨z0, z1, z2, z3⟩, _, _⟩ := HK3.out _ hbA3
  obtain ⟨_, iz, _⟩ := HK3.out _ hbL3
  have NW3 := news_of_list iz
  clear iz
  go_wp2_with fail
  go_cut [9, 10] from 53 to 60 (fun u v wc => ∃ p c, u = .slice p 64 c ∧ v = .bool true ∧ Ints wc p LB ∧ Below W5.heap.size W5 wc)
  case first =>
    go_region_law (first
      | (refine step_append_lies _ (by rfl) _ _ _ (by rfl) W5.heap.size 3 i0 (.int .i64 0) 1 8 Tryd.underlying24 hi0 hz0 hz1 hz2 rfl (by omega) (.slice (some ⟨W5.heap.size, 0, none⟩) 0 0) 0 _ (by rfl) lit3 ⟨sb1, 0, none⟩ 64 sc1 (xs.map (Value.int .i64)) (by rfl) LN3.out NW3 (ones_of_list _) (by omega) (by unfold maxLen; omega) (by omega) (by simp) (W5.heap.size + 1) (by simp) ?_; intro gg cp w5 hown5 hgrow hat hlt5; have hb5 : Below W5.heap.size W5 w5 := hbL3.grown hgrow (by simp) (fun k hk => (lit3.lt k hk).1); have J5 : Ints w5 (some ⟨gg, 0, none⟩) xs := owned_at (xs := xs) (by rw [LS3.out]; exact hown5); have hcp := owned_cap hown5; obtain ⟨⟨y0, y1, y2, y3⟩, _, hbw5⟩ := HK3.out w5 hb5)
      | (go_simp; go_at_call 10; refine (C3.out _ _ w5 hbw5 J5 (by omega)).mono ?_; rintro e w6 ⟨⟨p6, c6, rfl, i6⟩, hr⟩; have hb6 := hb5.trans (hr.mono hb5.size)))
    all_goals
      go_wp2_with fail
      go_meet
      exact ⟨_, _, rfl, rfl, i6, hb6⟩
  case rest =>
  obtain ⟨p3, c3, rfl, rfl, i3, hbc3⟩ := hcut
  clear lit3 hbA3 hbL3 NW3 x0 x1 x2 x3 z0 z1 z2 z3
  generalize wc = W6 at *
  have bD2 := bD.below hbc3 bD.lt
  have hd2 : Below gC w2 W6 := hcD.trans (hbc3.mono (Nat.le_of_lt bD.lt))
  rcases i3 with h0 | ⟨sb4, so4, hp1, hs2, hs2c⟩
  · have := LS4.out
    rw [h0] at this
    cases this
  subst hp1
  have HK4 : Hid (∀ w', Below W6.heap.size W6 w' → (w'.cell? ⟨gC, 0, none⟩ = some (.bool k) ∧ w'.cell? ⟨gC, 1, none⟩ = some (.int .i64 q) ∧ w'.cell? ⟨gC, 2, none⟩ = some (.bool true) ∧ w'.cell? ⟨gC, 3, none⟩ = some (.bool false)) ∧ Ints w' (some ⟨sb4, so4, none⟩) LB ∧ Below w.heap.size w w') := fun w' h => by
    have h2 : Below gC w2 w' := hd2.trans (h.mono (Nat.le_of_lt bD2.lt))
    exact ⟨(bD2.below h bD2.lt).four.1, .inr ⟨sb4, so4, rfl, Nat.lt_of_lt_of_le hs2 h.size, fun i hi => (h.cell (p := ⟨sb4, so4 + i, none⟩) hs2).trans (hs2c i hi)⟩, hb2.trans (h2.mono hgw)⟩
  clear hbc3 bD hcD HK3 hs2 hs2c C3
  -- LevelsBack
  have lit4 : ((W6.alloc (.cells #[] 3)).drew).ownsRow W6.heap.size 3 1 (.slice (some ⟨W6.heap.size, 0, none⟩) 0 0) 0 (([] : List Int).map (Value.int .i64)) := World.ownsRow_lit W6.drew #[] 0 (Nat.le_refl _) (by unfold maxLen; omega) rfl
  have hbA4 : Below W6.heap.size W6 (W6.alloc (.cells #[] 3)) := (Below.refl W6.heap.size W6).alloc (Nat.le_refl _) _
  have hbL4 : Below W6.heap.size W6 ((W6.alloc (.cells #[] 3)).drew) := hbA4.drew
  obtain ⟨⟨x0, x1, x2, x3⟩, _, _⟩ := HK4.out W6 (Below.refl _ _)
  obtain ⟨⟨z0, z1, z2, z3⟩, _, _⟩ := HK4.out _ hbA4
  obtain ⟨_, iz, _⟩ := HK4.out _ hbL4
  have NW4 := news_of_list iz
  clear iz
  go_wp2_with fail
  go_cut [11, 12] from 61 to 68 (fun u v wc => ∃ p c, u = .slice p 64 c ∧ v = .bool true ∧ Ints wc p LC ∧ Below W6.heap.size W6 wc)
  case first =>
    go_region_law (first
      | (refine step_append_lies _ (by rfl) _ _ _ (by rfl) W6.heap.size 3 i0 (.int .i64 0) 1 8 Tryd.underlying24 hi0 hz0 hz1 hz2 rfl (by omega) (.slice (some ⟨W6.heap.size, 0, none⟩) 0 0) 0 _ (by rfl) lit4 ⟨sb4, so4, none⟩ 64 c3 (LB.map (Value.int .i64)) (by rfl) LN4.out NW4 (ones_of_list _) (by omega) (by unfold maxLen; omega) (by omega) (by simp) (W6.heap.size + 1) (by simp) ?_; intro gg cp w5 hown5 hgrow hat hlt5; have hb5 : Below W6.heap.size W6 w5 := hbL4.grown hgrow (by simp) (fun k hk => (lit4.lt k hk).1); have J5 : Ints w5 (some ⟨gg, 0, none⟩) LB := owned_at (xs := LB) (by rw [LS4.out]; exact hown5); have hcp := owned_cap hown5; obtain ⟨⟨y0, y1, y2, y3⟩, _, hbw5⟩ := HK4.out w5 hb5)
      | (go_simp; go_at_call 11; refine (C4.out _ _ w5 hbw5 J5 (by omega)).mono ?_; rintro e w6 ⟨⟨p6, c6, rfl, i6⟩, hr⟩; have hb6 := hb5.trans (hr.mono hb5.size)))
    all_goals
      go_wp2_with fail
      go_meet
      exact ⟨_, _, rfl, rfl, i6, hb6⟩
  case rest =>
  obtain ⟨p4, c4, rfl, rfl, i4, hbc4⟩ := hcut
  clear lit4 hbA4 hbL4 NW4 x0 x1 x2 x3 z0 z1 z2 z3
  generalize wc = W7 at *
  have bD3 := bD2.below hbc4 bD2.lt
  have hd3 : Below gC w2 W7 := hd2.trans (hbc4.mono (Nat.le_of_lt bD2.lt))
  clear hbc4 bD2 hd2 HK4 C4
  rcases i4 with h0 | ⟨yb, yo, hp1, hs2, hs2c⟩
  · have := LS5.out
    rw [h0] at this
    cases this
  subst hp1
  have HK5 : Hid (∀ w', Below W7.heap.size W7 w' → w'.cell? ⟨gC, 1, none⟩ = some (.int .i64 q) ∧ (∀ i, i < 64 → w'.cell? ⟨yb, yo + i, none⟩ = some (.int .i64 (LC.getD i 0)) ∧ w'.cell? ⟨sb1, i, none⟩ = some (.int .i64 (xs.getD i 0))) ∧ Below w.heap.size w w') := fun w' h => by
    have h2 : Below gC w2 w' := hd3.trans (h.mono (Nat.le_of_lt bD3.lt))
    refine ⟨(bD3.below h bD3.lt).four.1.2.1, fun i hi => ⟨(h.cell (p := ⟨yb, yo + i, none⟩) hs2).trans (hs2c i (by rw [LS5.out]; exact hi)), ?_⟩, hb2.trans (h2.mono hgw)⟩
    have := ints_there (ix2.below h2 (by omega)) (k := i) (by rw [LS1.out]; exact hi)
    rwa [Nat.zero_add] at this
  have hz7 := Below.refl W7.heap.size W7
  clear bD3 hd3 hs2 hs2c ix2 hb2
  go_wp2_with fail
  generalize hz : W7.heap.size = z at *
  go_loopw [13] (fun i wr => ∃ j : Nat, j ≤ 64 ∧ i = .int .i64 (j : Int) ∧ Below z W7 wr) (fun i _ => 64 - (intOf i).toNat)
  case atStart => exact ⟨0, by omega, rfl, hz7⟩
  case round =>
    obtain ⟨j, hj, rfl, hb⟩ := hrel
    clear hz7
    obtain ⟨e0, e1, hbw⟩ := HK5.out wr hb
    by_cases hlt : j < 64
    · have l0 : (0 : Int) ≤ (j : Int) := by omega
      have l1 : (j : Int) < 64 := by omega
      obtain ⟨e2, e3⟩ := e1 j hlt
      obtain ⟨m0, m1⟩ := HN.out j hlt
      obtain ⟨b0, b1⟩ := HXB.out j hlt
      clear e1
      have CSt : Hid (∀ n, Calls Tryd.prog 13 #[.int .i64 q] (wr.drewN n) fun e w'' => e = .returned (.int .i64 st) ∧ w'' = wr.drewN n) := fun n => HSt.out (wr.drewN n) (below_drewN hbw n)
      generalize LC.getD j 0 = y at *
      generalize xs.getD j 0 = u at *
      have hsub : IntKind.i64.wrap (y - u) = y - u := IntWalk.i64_in _ ⟨by omega, by omega⟩
      have hfin := fun n => below_drewN hb n
      by_cases hneg : y - u < 0
      · go_wp2_with fail
        go_quiet (fail)
        go_wp2_with (go_at_call 13; refine (CSt.out _).mono ?_; rintro e w9 ⟨rfl, hw⟩; subst w9)
        refine ⟨⟨j + 1, by omega, by go_num, hfin _⟩, ?_⟩
        simp [intOf]; omega
      · go_wp2_with fail
        go_quiet (fail)
        go_wp2_with (go_at_call 13; refine (CSt.out _).mono ?_; rintro e w9 ⟨rfl, hw⟩; subst w9)
        refine ⟨⟨j + 1, by omega, by go_num, hfin _⟩, ?_⟩
        simp [intOf]; omega
    · obtain rfl : j = 64 := by omega
      clear e1
      go_wp2_with (go_at_call 13; refine (HSt.out _ hbw).mono ?_; rintro e w9 ⟨rfl, hw⟩; subst w9)
      go_ret
      exact ⟨by simp, hbw⟩
end Go.Proofs.YtlejfkjanllgbaaDoor
