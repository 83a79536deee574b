/-
  What comes back of levels, of the specification: the walks of spec.LevelsBack and of both functions at every argument.
-/
import Derived.Test.YtlejfkjanllgbaaDoorLeftTopsAll
import Derived.Test.YtlejfkjanllgbaaDoorLeftPartsAll
namespace Go.Proofs.YtlejfkjanllgbaaDoor
open Go.RowKit
set_option linter.unusedVariables false
set_option maxRecDepth 20000

set_option maxHeartbeats 1600000 in
theorem specLevelsBack_ex (a : Option Addr) (cap : Nat) (f : Nat → Int) (k : Bool) (q : Int) (w : World) (h : Ints w a (listF 64 f)) (hd : ∀ i, i < 64 → -5000 ≤ f i ∧ f i ≤ 5000) (hp : parB q false true = true) :
    Calls Tryd.prog 20 #[.slice a 64 cap, conV k q false true] w fun e w' => (∃ v, e = .returned (.tuple #[v, .bool true]) ∧ RowF w' w.heap.size v 64 (fun j => f (bkF 8 j))) ∧ Below w.heap.size w w' := by
  have B0 := Blk.new w #[.bool k, .int .i64 q, .bool false, .bool true] 27
  have hb0 := (Below.refl w.heap.size w).alloc (Nat.le_refl _) (.cells #[.bool k, .int .i64 q, .bool false, .bool true] 27)
  have HI : Hid (∀ w', Below w.heap.size w w' → Ints w' a (listF 64 f)) := fun w' hb => h.below hb (Nat.le_refl _)
  have C1 : Hid (∀ w', Calls Tryd.prog 33 #[conV k q false true] w' fun e w'' => e = .returned (.bool true) ∧ Below w'.heap.size w' w'') := fun w' => by
    have := specCondOk k q false true w'
    rwa [hp] at this
  have C2 : Hid (∀ w', Below w.heap.size w w' → Calls Tryd.prog 34 #[.slice a 64 cap, .int .i64 64, .int .i64 5000] w' fun e w'' => e = .returned (.bool true) ∧ Below w'.heap.size w' w'') := fun w' hb => by
    have := specAll a cap 64 (listF 64 f) 5000 w' (HI.out w' hb) (by rw [listF_length]; unfold maxLen; omega) (by decide) (by decide)
    rw [listF_length, inB_allF hd] at this
    exact this
  clear h hp
  go_enter Tryd.func20, Tryd.ntmps20
  go_wp2_with fail
  generalize World.alloc w _ = V at *
  have BK : Hid (∀ w', Below V.heap.size V w' → (w'.cell? ⟨w.heap.size, 1, none⟩ = some (.int .i64 q) ∧ w'.cell? ⟨w.heap.size, 2, none⟩ = some (.bool false) ∧ w'.cell? ⟨w.heap.size, 3, none⟩ = some (.bool true))) := fun w' h => (B0.below h B0.lt).four.1.2
  clear B0
  refine (C1.out V).mono ?_
  rintro e w1 ⟨rfl, hb1⟩
  go_wp2_with fail
  refine (C2.out w1 (hb0.trans (hb1.mono hb0.size))).mono ?_
  rintro e w2 ⟨rfl, hc⟩
  have hb2 := hb1.trans (hc.mono hb1.size)
  have hbs := hb0.size
  have hbw2 := hb0.trans (hb2.mono hbs)
  clear hc hb1 C1 C2
  obtain ⟨x1, x2, x3⟩ := BK.out w2 hb2
  go_wp2_with fail
  refine (specUnscan8 a cap f w2 (HI.out w2 hbw2)).mono ?_
  rintro e w3 ⟨⟨v, rfl, ho⟩, hc⟩
  have HO : Hid (World.ownsRow _ _ _ _ _ _ _) := own_mono ho hbw2.size
  have hb3 := hbw2.trans (hc.mono hbw2.size)
  clear ho hc
  go_wp2
  go_ret2
  exact ⟨⟨_, rfl, HO.out⟩, hb3⟩

set_option maxHeartbeats 1600000 in
theorem specLevelsBack_lg (a : Option Addr) (cap : Nat) (f : Nat → Int) (k : Bool) (q : Int) (w : World) (h : Ints w a (listF 64 f)) (hd : ∀ i, i < 64 → -5000 ≤ f i ∧ f i ≤ 5000) (hp : parB q true false = true) :
    Calls Tryd.prog 20 #[.slice a 64 cap, conV k q true false] w fun e w' => (∃ v, e = .returned (.tuple #[v, .bool true]) ∧ RowF w' w.heap.size v 64 (lrbF q f)) ∧ Below w.heap.size w w' := by
  obtain ⟨E, HEq⟩ : ∃ E : Nat → Int, Hid (E = fun i => f (bkF 8 i)) := ⟨_, rfl⟩
  obtain ⟨L, HLq⟩ : ∃ L : Nat → Int, Hid (L = fun i => largeB (f (bkF 8 i)) q) := ⟨_, rfl⟩
  have HE : Hid (∀ i, L i = largeB (E i) q) := fun i => by rw [HLq.out, HEq.out]
  have HB : Hid (∀ i, i < 64 → -10000000 ≤ L i ∧ L i ≤ 10000000) := fun i hi => by
    rw [HE.out i]
    have := largeB_in (E i) q
    omega
  have HF : Hid ((fun i => (eightF L i + 32) / 64) = lrbF q f) := by show _ = _; rw [HLq.out]; rfl
  have B0 := Blk.new w #[.bool k, .int .i64 q, .bool true, .bool false] 27
  have hb0 := (Below.refl w.heap.size w).alloc (Nat.le_refl _) (.cells #[.bool k, .int .i64 q, .bool true, .bool false] 27)
  have HI : Hid (∀ w', Below w.heap.size w w' → Ints w' a (listF 64 f)) := fun w' hb => h.below hb (Nat.le_refl _)
  have C1 : Hid (∀ w', Calls Tryd.prog 33 #[conV k q true false] w' fun e w'' => e = .returned (.bool true) ∧ Below w'.heap.size w' w'') := fun w' => by
    have := specCondOk k q true false w'
    rwa [hp] at this
  have C2 : Hid (∀ w', Below w.heap.size w w' → Calls Tryd.prog 34 #[.slice a 64 cap, .int .i64 64, .int .i64 5000] w' fun e w'' => e = .returned (.bool true) ∧ Below w'.heap.size w' w'') := fun w' hb => by
    have := specAll a cap 64 (listF 64 f) 5000 w' (HI.out w' hb) (by rw [listF_length]; unfold maxLen; omega) (by decide) (by decide)
    rw [listF_length, inB_allF hd] at this
    exact this
  clear h hp
  go_enter Tryd.func20, Tryd.ntmps20
  go_wp2_with fail
  generalize World.alloc w _ = V at *
  have BK : Hid (∀ w', Below V.heap.size V w' → (w'.cell? ⟨w.heap.size, 1, none⟩ = some (.int .i64 q) ∧ w'.cell? ⟨w.heap.size, 2, none⟩ = some (.bool true) ∧ w'.cell? ⟨w.heap.size, 3, none⟩ = some (.bool false))) := fun w' h => (B0.below h B0.lt).four.1.2
  clear B0
  refine (C1.out V).mono ?_
  rintro e w1 ⟨rfl, hb1⟩
  go_wp2_with fail
  refine (C2.out w1 (hb0.trans (hb1.mono hb0.size))).mono ?_
  rintro e w2 ⟨rfl, hc⟩
  have hb2 := hb1.trans (hc.mono hb1.size)
  have hbs := hb0.size
  have hbw2 := hb0.trans (hb2.mono hbs)
  clear hc hb1 C1 C2
  obtain ⟨x1, x2, x3⟩ := BK.out w2 hb2
  go_wp2_with fail
  refine (specUnscan8 a cap f w2 (HI.out w2 hbw2)).mono ?_
  rintro e w3 ⟨⟨v, rfl, ho⟩, hc⟩
  obtain ⟨gv, cv, rfl, hg1, _, _, _⟩ := ho.form (by omega)
  have ho1 := ho
  unfold RowF at ho1
  rw [← HEq.out, ← upF_none L E 64] at ho1
  generalize hz : w2.heap.size = z at *
  have hzz : ∀ wr : World, Below z w2 wr → z ≤ wr.heap.size := fun wr h => by rw [← hz]; exact h.size
  have hVz : V.heap.size ≤ z := by rw [← hz]; exact hb2.size
  have hVV : ∀ wr : World, Below z w2 wr → Below V.heap.size V wr := fun wr h => hb2.trans (h.mono hVz)
  clear ho x1 x2 x3
  go_wp2_with fail
  go_loopw [8] (fun i wr => ∃ j : Nat, j ≤ 64 ∧ i = .int .i64 (j : Int) ∧ wr.ownsRow z 3 1 (.slice (some ⟨gv, 0, none⟩) 64 cv) 64 ((listF 64 (upF L E j)).map (Value.int .i64)) ∧ Below z w2 wr) (fun i _ => 64 - (intOf i).toNat)
  case atStart => exact ⟨0, by omega, rfl, ho1, hc⟩
  case round =>
    obtain ⟨j, hj, rfl, hownj, hbj⟩ := hrel
    clear ho1 hc
    have hzj : z ≤ wr.heap.size := hzz wr hbj
    by_cases hlj : j < 64
    · have l0 : (0 : Int) ≤ (j : Int) := by omega
      have l1 : (j : Int) < 64 := by omega
      have dq := (BK.out wr (hVV wr hbj)).1
      have hcc := hownj.cellAt j (by omega)
      rw [map_at _ hlj, upF_at] at hcc
      have hfz := hownj.frozenAt j
      have hst := hownj.stored j (.int .i64 (L j))
      have hbn := hbj.grown hst.2 hzj (fun j hj => by cases hj; exact hg1)
      have hos := hst.1
      rw [upF_set] at hos
      have CL : Hid (∀ w', Calls Tryd.prog 42 #[.int .i64 (E j), .int .i64 q] w' fun e w'' => e = .returned (.int .i64 (L j)) ∧ w'' = w') := fun w' => by
        rw [HE.out j]
        exact specLargeBack (E j) q w'
      generalize L j = y at *
      generalize E j = e0 at *
      clear hst hownj
      have FIN : Hid ((wr.setCell ⟨gv, j, none⟩ (.int .i64 y)).drew.ownsRow z 3 1 (.slice (some ⟨gv, 0, none⟩) 64 cv) 64 ((listF 64 (upF L E (j + 1))).map (Value.int .i64)) ∧ Below z w2 (wr.setCell ⟨gv, j, none⟩ (.int .i64 y)).drew) := ⟨hos, hbn.drew⟩
      clear hos hbn
      go_wp2_with fail
      go_region_with (go_at_call 42; refine (CL.out _).mono ?_; rintro e w5 ⟨rfl, hw⟩; subst w5)
      all_goals
        go_wp2
        refine ⟨⟨j + 1, by omega, by go_num, FIN.out.1, FIN.out.2⟩, ?_⟩
        simp [intOf]; omega
    · obtain rfl : j = 64 := by omega
      rw [upF_full] at hownj
      have hi : Ints wr (some ⟨gv, 0, none⟩) (listF 64 L) := RowF.at' hownj
      clear hownj
      go_wp2_with fail
      refine (specEightBackF _ _ L wr HB.out hi).mono ?_
      rintro e w6 ⟨⟨v6, rfl, ho6⟩, hc6⟩
      have HO : Hid (World.ownsRow _ _ _ _ _ _ _) := own_mono (B' := w.heap.size) ho6 (by omega)
      have hb6 := hb0.trans ((hVV wr hbj).mono hbs)
      have hb7 := hb6.trans (hc6.mono hb6.size)
      clear ho6 hc6 hi
      go_wp2
      go_ret2
      exact ⟨⟨_, rfl, by have r := HO.out; rwa [HF.out] at r⟩, hb7⟩

set_option maxHeartbeats 3200000 in
theorem specLevelsBack_sm (a : Option Addr) (cap : Nat) (f : Nat → Int) (k : Bool) (q : Int) (w : World) (h : Ints w a (listF 64 f)) (hc64 : 64 ≤ cap) (hd : ∀ i, i < 64 → -5000 ≤ f i ∧ f i ≤ 5000) (hp : parB q false false = true) :
    Calls Tryd.prog 20 #[.slice a 64 cap, conV k q false false] w fun e w' => (∃ v, e = .returned (.tuple #[v, .bool true]) ∧ RowF w' w.heap.size v 64 (smbA q f)) ∧ Below w.heap.size w w' := by
  obtain ⟨i0, hi0, hz0, hz1, hz2⟩ := info_parts infoI
  obtain ⟨b, off, ha, hbl, hc0⟩ : ∃ b off : Nat, a = some ⟨b, off, none⟩ ∧ b < w.heap.size ∧ ∀ i, i < 64 → w.cell? ⟨b, off + i, none⟩ = some (.int .i64 (f i)) := by
    rcases h with h0 | ⟨b, off, ha, hb, hc⟩
    · have e := congrArg List.length h0
      rw [listF_length] at e
      cases e
    · exact ⟨b, off, ha, hb, fun i hi => by rw [hc i (by rw [listF_length]; exact hi), listF_get f hi]⟩
  subst ha
  have CU : Hid (∀ (m : Nat) w', m < 4 → Below w.heap.size w w' → Calls Tryd.prog 41 #[.int .i64 4, .slice (some ⟨b, off + 16 * m, none⟩) 16 (cap - 16 * m)] w' fun e w'' => (∃ v, e = .returned (.tuple #[v, .bool true]) ∧ RowF w'' w'.heap.size v 16 (fun i => f (16 * m + bkF 4 i))) ∧ Below w'.heap.size w' w'') := fun m w' hm hb => by
    exact specUnscan4 _ _ (fun i => f (16 * m + i)) w' (.inr ⟨b, off + 16 * m, rfl, Nat.lt_of_lt_of_le hbl hb.size, fun i hi => by
      rw [listF_length] at hi
      rw [listF_get _ hi, (hb.cell (p := ⟨b, off + 16 * m + i, none⟩) hbl), Nat.add_assoc, hc0 (16 * m + i) (by omega)]⟩)
  obtain ⟨A, HAq⟩ : ∃ A : Nat → Int, Hid (A = smbA q f) := ⟨_, rfl⟩
  have B0 := Blk.new w #[.bool k, .int .i64 q, .bool false, .bool false] 27
  have hb0 := (Below.refl w.heap.size w).alloc (Nat.le_refl _) (.cells #[.bool k, .int .i64 q, .bool false, .bool false] 27)
  have HI : Hid (∀ w', Below w.heap.size w w' → Ints w' (some ⟨b, off, none⟩) (listF 64 f)) := fun w' hb => h.below hb (Nat.le_refl _)
  have C1 : Hid (∀ w', Calls Tryd.prog 33 #[conV k q false false] w' fun e w'' => e = .returned (.bool true) ∧ Below w'.heap.size w' w'') := fun w' => by
    have := specCondOk k q false false w'
    rwa [hp] at this
  have C2 : Hid (∀ w', Below w.heap.size w w' → Calls Tryd.prog 34 #[.slice (some ⟨b, off, none⟩) 64 cap, .int .i64 64, .int .i64 5000] w' fun e w'' => e = .returned (.bool true) ∧ Below w'.heap.size w' w'') := fun w' hb => by
    have := specAll (some ⟨b, off, none⟩) cap 64 (listF 64 f) 5000 w' (HI.out w' hb) (by rw [listF_length]; unfold maxLen; omega) (by decide) (by decide)
    rw [listF_length, inB_allF hd] at this
    exact this
  clear h hp
  go_enter Tryd.func20, Tryd.ntmps20
  go_wp2_with fail
  generalize World.alloc w _ = V at *
  have BK : Hid (∀ w', Below V.heap.size V w' → (w'.cell? ⟨w.heap.size, 1, none⟩ = some (.int .i64 q) ∧ w'.cell? ⟨w.heap.size, 2, none⟩ = some (.bool false) ∧ w'.cell? ⟨w.heap.size, 3, none⟩ = some (.bool false))) := fun w' h => (B0.below h B0.lt).four.1.2
  clear B0
  refine (C1.out V).mono ?_
  rintro e w1 ⟨rfl, hb1⟩
  go_wp2_with fail
  refine (C2.out w1 (hb0.trans (hb1.mono hb0.size))).mono ?_
  rintro e w2 ⟨rfl, hc⟩
  have hb2 := hb1.trans (hc.mono hb1.size)
  have hbs := hb0.size
  have hbw2 := hb0.trans (hb2.mono hbs)
  clear hc hb1 C1 C2
  obtain ⟨x1, x2, x3⟩ := BK.out w2 hb2
  generalize hs : V.heap.size = s at *
  have hVw : s ≤ w2.heap.size := by rw [← hs]; exact hb2.size
  clear hd HI x1 hbw2 hc0 hbl
  go_wp2_with (at_make; refine wpList_make_full _ (by rfl) _ _ 24 (by rfl) s 3 i0 (.int .i64 0) 1 Tryd.underlying24 hi0 hz0 hz1 .i64 .i64 _ _ 64 (by rfl) (by rfl) (by rfl) (by rfl) (by rw [hz2]; omega) (by unfold maxLen; omega) hVw ?_; intro w3 ho0 hgrow0; have hb3 : Below s V w3 := hb2.grown hgrow0 hVw (fun j hj => by cases hj); clear hgrow0)
  rw [bkTo_made A] at ho0
  generalize w2.heap.size = gr at *
  have hgrs : s ≤ gr := hVw
  clear hb2 x2 x3
  go_loopw [10] (fun i wr => ∃ m : Nat, m ≤ 4 ∧ i = .int .i64 (m : Int) ∧ wr.ownsRow s 3 1 (.slice (some ⟨gr, 0, none⟩) 64 64) 64 ((listF 64 (bkTo A m 0)).map (Value.int .i64)) ∧ Below s V wr) (fun i _ => 4 - (intOf i).toNat)
  case atStart => exact ⟨0, by omega, rfl, ho0, hb3⟩
  case round =>
    obtain ⟨m, hm, rfl, hown, hb⟩ := hrel
    clear ho0 hb3
    have hsw : s ≤ wr.heap.size := by rw [← hs]; exact hb.size
    by_cases hlt : m < 4
    · have l0 : (0 : Int) ≤ (m : Int) := by omega
      have l1 : (m : Int) < 4 := by omega
      generalize wr = wh at *
      go_wp2_with fail
      refine (CU.out m wh hlt (hb0.trans (hb.mono hbs))).mono ?_
      rintro e w4 ⟨⟨v2, rfl, ho2⟩, hc⟩
      obtain ⟨g2, c2, rfl, hg2, _, _, _⟩ := ho2.form (by omega)
      obtain ⟨E, HEq⟩ : ∃ E : Nat → Int, Hid (E = fun i => f (16 * m + bkF 4 i)) := ⟨_, rfl⟩
      obtain ⟨L, HLq⟩ : ∃ L : Nat → Int, Hid (L = fun i => smallB (f (16 * m + bkF 4 i)) q (i : Int)) := ⟨_, rfl⟩
      have HE : Hid (∀ i, L i = smallB (E i) q (i : Int)) := fun i => by rw [HLq.out, HEq.out]
      have HB : Hid (∀ i, i < 16 → -10000000 ≤ L i ∧ L i ≤ 10000000) := fun i hi => by
        rw [HE.out i]
        have := smallB_in (E i) q (i : Int)
        omega
      have HX : Hid (∀ j, j < 16 → (turnF bakR L j + 32) / 64 = A (qIx m j)) := fun j hj => by
        rw [HAq.out, smbA_at q f hlt hj, HLq.out]
        rfl
      rw [← HEq.out] at ho2
      have ho1 := ho2
      unfold RowF at ho1
      rw [← upF_none L E 16] at ho1
      clear ho2
      generalize hz : wh.heap.size = z at *
      have hrz : gr < z := by have := (hown.lt gr rfl).2; omega
      have hsz : s ≤ z := hsw
      have hzz : ∀ wr : World, Below z wh wr → z ≤ wr.heap.size := fun wr h => by rw [← hz]; exact h.size
      have hVV : ∀ wr : World, Below z wh wr → Below s V wr := fun wr h => hb.trans (h.mono hsz)
      go_wp2_with fail
      go_loopw [13] (fun i wr => ∃ j : Nat, j ≤ 16 ∧ i = .int .i64 (j : Int) ∧ wr.ownsRow z 3 1 (.slice (some ⟨g2, 0, none⟩) 16 c2) 16 ((listF 16 (upF L E j)).map (Value.int .i64)) ∧ Below z wh wr) (fun i _ => 16 - (intOf i).toNat)
      case atStart => exact ⟨0, by omega, rfl, ho1, hc⟩
      case round =>
        obtain ⟨j, hj, rfl, hownj, hbj⟩ := hrel
        clear ho1 hc
        have hzj : z ≤ wr.heap.size := hzz wr hbj
        by_cases hlj : j < 16
        · have l0 : (0 : Int) ≤ (j : Int) := by omega
          have l1 : (j : Int) < 16 := by omega
          have dq := (BK.out wr (hVV wr hbj)).1
          have hcc := hownj.cellAt j (by omega)
          rw [map_at _ hlj, upF_at] at hcc
          have hfz := hownj.frozenAt j
          have hst := hownj.stored j (.int .i64 (L j))
          have hbn := hbj.grown hst.2 hzj (fun j hj => by cases hj; exact hg2)
          have hos := hst.1
          rw [upF_set] at hos
          have CL : Hid (∀ w', Calls Tryd.prog 44 #[.int .i64 (E j), .int .i64 q, .int .i64 (j : Int)] w' fun e w'' => e = .returned (.int .i64 (L j)) ∧ w'' = w') := fun w' => by
            rw [HE.out j]
            exact specSmallBack (E j) q (j : Int) w'
          generalize L j = y at *
          generalize E j = e0 at *
          clear hst hownj
          have FIN : Hid ((wr.setCell ⟨g2, j, none⟩ (.int .i64 y)).drew.ownsRow z 3 1 (.slice (some ⟨g2, 0, none⟩) 16 c2) 16 ((listF 16 (upF L E (j + 1))).map (Value.int .i64)) ∧ Below z wh (wr.setCell ⟨g2, j, none⟩ (.int .i64 y)).drew) := ⟨hos, hbn.drew⟩
          clear hos hbn
          go_wp2_with fail
          go_region_with (go_at_call 44; refine (CL.out _).mono ?_; rintro e w5 ⟨rfl, hw⟩; subst w5)
          all_goals
            go_wp2
            refine ⟨⟨j + 1, by omega, by go_num, FIN.out.1, FIN.out.2⟩, ?_⟩
            simp [intOf]; omega
        · obtain rfl : j = 16 := by omega
          rw [upF_full] at hownj
          have hi : Ints wr (some ⟨g2, 0, none⟩) (listF 16 L) := RowF.at' hownj
          clear hownj
          go_wp2_with fail
          refine (specFourBackF _ _ L wr HB.out hi).mono ?_
          rintro e w6 ⟨⟨v6, rfl, ho6⟩, hc6⟩
          obtain ⟨g6, c6, rfl, hg6, hl6, _, _⟩ := ho6.form (by omega)
          have e6 : listF 16 (fun i => (turnF bakR L i + 32) / 64) = listF 16 (fun j => A (qIx m j)) := listF_congr fun i hi => HX.out i hi
          unfold RowF at ho6
          rw [e6] at ho6
          have hi6 : Ints w6 (some ⟨g6, 0, none⟩) (listF 16 (fun j => A (qIx m j))) := RowF.at' ho6
          have hzw : Below z wh w6 := hbj.trans (hc6.mono hzj)
          have hown6 := owned_below hown (by rw [hz]; exact hzw)
          have hb6 : Below s V w6 := hb.trans (hzw.mono hsz)
          have hs6 : gr < g6 := by omega
          clear ho6 hc6 hi e6 hzw hown hbj
          have HS : Hid (∀ j, j < 16 → ((listF 64 (bkTo A m j)).map (Value.int .i64)).set (qIx m j) (.int .i64 (A (qIx m j))) = (listF 64 (bkTo A m (j + 1))).map (Value.int .i64)) := fun j hj => bkTo_set A hlt hj
          have HQl : Hid (∀ j, j < 16 → qIx m j < 64 ∧ 8 * ((m : Int) / 2 * 4 + (j : Int) / 4) + (m : Int) % 2 * 4 + (j : Int) % 4 = (qIx m j : Int)) := fun j hj => ⟨qIx_lt hlt hj, by unfold qIx; omega⟩
          generalize wr = wj at *
          go_wp2_with fail
          go_loopw [15] (fun i wr => ∃ j : Nat, j ≤ 16 ∧ i = .int .i64 (j : Int) ∧ wr.ownsRow s 3 1 (.slice (some ⟨gr, 0, none⟩) 64 64) 64 ((listF 64 (bkTo A m j)).map (Value.int .i64)) ∧ Ints wr (some ⟨g6, 0, none⟩) (listF 16 (fun j => A (qIx m j))) ∧ Below s V wr) (fun i _ => 16 - (intOf i).toNat)
          case atStart => exact ⟨0, by omega, rfl, hown6, hi6, hb6⟩
          case round =>
            obtain ⟨j, hj, rfl, hownk, hik, hbk⟩ := hrel
            clear hown6 hi6 hb6
            by_cases hlk : j < 16
            · have k0 : (0 : Int) ≤ (j : Int) := by omega
              have k1 : (j : Int) < 16 := by omega
              obtain ⟨hq64, hqe⟩ := HQl.out j hlk
              have d6 := ints_there hik (k := j) (by rw [listF_length]; exact hlk)
              rw [listF_get _ hlk, Nat.zero_add] at d6
              have hcc := hownk.cellAt (qIx m j) (by omega)
              rw [map_at _ hq64] at hcc
              have hfz := hownk.frozenAt (qIx m j)
              have hst := hownk.stored (qIx m j) (.int .i64 (A (qIx m j)))
              have hbn := hbk.grown hst.2 (by rw [← hs]; exact hbk.size) (fun j hj => by cases hj; exact hgrs)
              have hos := hst.1
              rw [HS.out j hlk] at hos
              have hin := hik.set ⟨gr, qIx m j, none⟩ (.int .i64 (A (qIx m j))) (fun p hp => by cases hp; exact hs6)
              have HIN : Hid (Ints _ _ _) := hin
              clear hst hownk hik hin
              generalize A (qIx m j) = y at *
              have y0 : (0 : Int) ≤ (qIx m j : Int) := by omega
              have y1 : (qIx m j : Int) < 64 := by omega
              generalize qIx m j = u at *
              go_wp2
              refine ⟨⟨j + 1, by omega, by go_num, hos, HIN.out, hbn⟩, ?_⟩
              simp [intOf]; omega
            · obtain rfl : j = 16 := by omega
              rw [bkTo_next] at hownk
              have HO7 : Hid (World.ownsRow _ _ _ _ _ _ _) := hownk
              clear hownk hik
              go_wp2
              refine ⟨⟨m + 1, by omega, by go_num, HO7.out, hbk⟩, ?_⟩
              simp [intOf]; omega
    · obtain rfl : m = 4 := by omega
      rw [bkTo_full] at hown
      have HO : Hid (World.ownsRow _ _ _ _ _ _ _) := own_mono hown hbs
      have hbf := hb0.trans (hb.mono hbs)
      clear hown
      go_wp2
      go_ret2
      exact ⟨⟨_, rfl, by have r := HO.out; rwa [HAq.out] at r⟩, hbf⟩

set_option maxHeartbeats 1600000 in
theorem specLevelsOf (a : Option Addr) (cap : Nat) (xs : List Int) (k : Bool) (q : Int) (g x : Bool) (w : World) (h : Ints w a xs) (hl : xs.length ≤ maxLen) :
    Calls Tryd.prog 14 #[.slice a xs.length cap, conV k q g x] w fun e w' => (∃ v, e = .returned (.tuple #[v, .bool (lvB 255 q g x xs)]) ∧ w'.ownsRow w.heap.size 3 1 v (levL q g x xs).length ((levL q g x xs).map (Value.int .i64))) ∧ Below w.heap.size w w' := by
  cases hv : lvB 255 q g x xs with
  | true =>
    obtain ⟨hp, hq⟩ := lvB_iff.1 hv
    obtain ⟨hn, _⟩ := sqB_iff.1 hq
    have hd := sqB_at hq
    have hi := ints_self h hn
    rw [levL_yes hv, listF_length, hn]
    cases x with
    | true =>
      obtain rfl : g = false := by cases g <;> simp_all [parB]
      rw [levF_exact]
      exact specLevelsOf_ex a cap _ k q w hi hd hp
    | false =>
      cases g with
      | true =>
        rw [levF_large]
        exact specLevelsOf_lg a cap _ k q w hi hd hp
      | false =>
        rw [levF_small]
        exact specLevelsOf_sm a cap _ k q w hi hd hp
  | false =>
    rw [levL_no hv]
    have C1 : Hid (∀ w', Calls Tryd.prog 33 #[conV k q g x] w' fun e w'' => e = .returned (.bool (parB q g x)) ∧ Below w'.heap.size w' w'') := fun w' => specCondOk k q g x w'
    have C2 : Hid (∀ w', Below w.heap.size w w' → Calls Tryd.prog 34 #[.slice a xs.length cap, .int .i64 64, .int .i64 255] w' fun e w'' => e = .returned (.bool (sqB 255 xs)) ∧ Below w'.heap.size w' w'') := fun w' hb => specAll a cap 64 xs 255 w' (h.below hb (Nat.le_refl _)) hl (by decide) (by decide)
    have HJ : Hid ((parB q g x && sqB 255 xs) = false) := hv
    have hb0 := (Below.refl w.heap.size w).alloc (Nat.le_refl _) (.cells #[.bool k, .int .i64 q, .bool g, .bool x] 27)
    unfold maxLen at hl
    clear h hv
    generalize parB q g x = X at *
    generalize sqB 255 xs = Y at *
    go_enter Tryd.func14, Tryd.ntmps14
    go_wp2_with fail
    generalize World.alloc w _ = V at *
    refine (C1.out V).mono ?_
    rintro e w1 ⟨rfl, hb1⟩
    have hbw1 := hb0.trans (hb1.mono hb0.size)
    rcases X with _ | _
    · go_wp2
      go_ret2
      exact ⟨⟨_, rfl, own_none w1 hbw1.size⟩, hbw1.alloc hbw1.size _⟩
    go_wp2_with fail
    refine (C2.out w1 hbw1).mono ?_
    rintro e w2 ⟨rfl, hb2⟩
    have hbw2 := hbw1.trans (hb2.mono hbw1.size)
    rcases Y with _ | _
    · go_wp2
      go_ret2
      exact ⟨⟨_, rfl, own_none w2 hbw2.size⟩, hbw2.alloc hbw2.size _⟩
    · exact absurd HJ.out (by simp)

set_option maxHeartbeats 1600000 in
theorem specLevelsBack (a : Option Addr) (cap : Nat) (xs : List Int) (k : Bool) (q : Int) (g x : Bool) (w : World) (h : Ints w a xs) (hl : xs.length ≤ maxLen) (hcap : xs.length ≤ cap) :
    Calls Tryd.prog 20 #[.slice a xs.length cap, conV k q g x] w fun e w' => (∃ v, e = .returned (.tuple #[v, .bool (lvB 5000 q g x xs)]) ∧ w'.ownsRow w.heap.size 3 1 v (lbkL q g x xs).length ((lbkL q g x xs).map (Value.int .i64))) ∧ Below w.heap.size w w' := by
  cases hv : lvB 5000 q g x xs with
  | true =>
    obtain ⟨hp, hq⟩ := lvB_iff.1 hv
    obtain ⟨hn, _⟩ := sqB_iff.1 hq
    have hd := sqB_at hq
    have hi := ints_self h hn
    rw [lbkL_yes hv, listF_length, hn]
    cases x with
    | true =>
      obtain rfl : g = false := by cases g <;> simp_all [parB]
      rw [bakF_exact]
      exact specLevelsBack_ex a cap _ k q w hi hd hp
    | false =>
      cases g with
      | true =>
        rw [bakF_large]
        exact specLevelsBack_lg a cap _ k q w hi hd hp
      | false =>
        rw [bakF_small]
        exact specLevelsBack_sm a cap _ k q w hi (by rw [hn] at hcap; exact hcap) hd hp
  | false =>
    rw [lbkL_no hv]
    have C1 : Hid (∀ w', Calls Tryd.prog 33 #[conV k q g x] w' fun e w'' => e = .returned (.bool (parB q g x)) ∧ Below w'.heap.size w' w'') := fun w' => specCondOk k q g x w'
    have C2 : Hid (∀ w', Below w.heap.size w w' → Calls Tryd.prog 34 #[.slice a xs.length cap, .int .i64 64, .int .i64 5000] w' fun e w'' => e = .returned (.bool (sqB 5000 xs)) ∧ Below w'.heap.size w' w'') := fun w' hb => specAll a cap 64 xs 5000 w' (h.below hb (Nat.le_refl _)) hl (by decide) (by decide)
    have HJ : Hid ((parB q g x && sqB 5000 xs) = false) := hv
    have hb0 := (Below.refl w.heap.size w).alloc (Nat.le_refl _) (.cells #[.bool k, .int .i64 q, .bool g, .bool x] 27)
    unfold maxLen at hl
    clear h hv
    generalize parB q g x = X at *
    generalize sqB 5000 xs = Y at *
    go_enter Tryd.func20, Tryd.ntmps20
    go_wp2_with fail
    generalize World.alloc w _ = V at *
    refine (C1.out V).mono ?_
    rintro e w1 ⟨rfl, hb1⟩
    have hbw1 := hb0.trans (hb1.mono hb0.size)
    rcases X with _ | _
    · go_wp2
      go_ret2
      exact ⟨⟨_, rfl, own_none w1 hbw1.size⟩, hbw1.alloc hbw1.size _⟩
    go_wp2_with fail
    refine (C2.out w1 hbw1).mono ?_
    rintro e w2 ⟨rfl, hb2⟩
    have hbw2 := hbw1.trans (hb2.mono hbw1.size)
    rcases Y with _ | _
    · go_wp2
      go_ret2
      exact ⟨⟨_, rfl, own_none w2 hbw2.size⟩, hbw2.alloc hbw2.size _⟩
    · exact absurd HJ.out (by simp)
end Go.Proofs.YtlejfkjanllgbaaDoor
