/-
  The walks of impl.placeInSquare, impl.quarterOf, and of the three ways to levels: exact, large, small.
  The walks of the small way, to levels and back.
  The walk of the small way back.
-/
import Derived.Test.YtlejfkjanllgbaaGreatDoorLeftKit
import Derived.Test.YtlejfkjanllgbaaGreatDoorStepAll
import Derived.Test.YtlejfkjanllgbaaGreatDoorCondKit
import Derived.Deep.AppendLies
namespace Go.Proofs.YtlejfkjanllgbaaGreatDoor
open Go.RowKit
set_option linter.unusedVariables false
set_option maxRecDepth 20000

/-- The three tables lie where they were laid. -/
def Tabs (w : World) : Prop := TabC w 2 scL ∧ TabC w 1 shL ∧ TabC w 0 kdL
theorem TabC.stays {w w' : World} {g : Nat} {l : List Int} (h : TabC w g l) (hb : Below w.heap.size w w') : TabC w' g l := fun i hi =>
  (hb.cell (p := ⟨g, i, none⟩) (World.block_lt_of_cell? w _ (h i hi))).trans (h i hi)
theorem Tabs.below {w w' : World} (h : Tabs w) (hb : Below w.heap.size w w') : Tabs w' := ⟨h.1.stays hb, h.2.1.stays hb, h.2.2.stays hb⟩

set_option maxHeartbeats 400000 in
theorem placeIn_any (q i : Nat) (w : World) (hq : q < 4) (hi : i < 16) :
    Calls Tryz.prog 61 #[.int .i64 (q : Int), .int .i64 (i : Int)] w fun e w' => e = .returned (.int .i64 (qIx q i : Int)) ∧ w' = w := by
  have HV : Hid (((q : Int) / 2 * 4 + (i : Int) / 4) * 8 + ((q : Int) % 2 * 4 + (i : Int) % 4) = (qIx q i : Int)) := by
    show _ = _
    unfold qIx
    omega
  have q0 : (0 : Int) ≤ (q : Int) := by omega
  have q1 : (q : Int) < 4 := by omega
  have i0 : (0 : Int) ≤ (i : Int) := by omega
  have i1 : (i : Int) < 16 := by omega
  generalize (qIx q i : Int) = z at *
  generalize (q : Int) = a at *
  generalize (i : Int) = b at *
  clear hq hi
  go_enter Tryz.func61, Tryz.ntmps61
  go_wp2
  go_ret
  exact ⟨by rw [← HV.out]; rfl, rfl⟩

set_option maxHeartbeats 1600000 in
theorem quarterOf_any (p : Option Addr) (c q : Nat) (f : Nat → Int) (w : World) (h : Ints w p (listF 64 f)) (hq : q < 4) :
    Calls Tryz.prog 55 #[.slice p 64 c, .int .i64 (q : Int)] w fun e w' => (∃ v, e = .returned v ∧ RowF w' w.heap.size v 16 (qtrF f q)) ∧ Below w.heap.size w w' := by
  obtain ⟨i0, hi0, hz0, hz1, hz2⟩ := info_parts infoI
  obtain ⟨b, off, ha, HI⟩ := ints_cells h (by omega)
  subst ha
  have HP : Hid (∀ (i : Nat) w', i < 16 → Calls Tryz.prog 61 #[.int .i64 (q : Int), .int .i64 (i : Int)] w' fun e w'' => e = .returned (.int .i64 (qIx q i : Int)) ∧ w'' = w') := fun i w' hi => placeIn_any q i w' hq hi
  have HX : Hid (∀ i, i < 16 → qIx q i < 64 ∧ qtrF f q i = f (qIx q i)) := fun i hi => ⟨qIx_lt hq hi, rfl⟩
  clear h hq
  generalize qtrF f q = F at *
  generalize hs : w.heap.size = s at *
  go_enter Tryz.func55, Tryz.ntmps55
  go_wp2_with (at_make; refine wpList_make_full _ (by rfl) _ _ 24 (by rfl) s 3 i0 (.int .i64 0) 1 Tryz.underlying24 hi0 hz0 hz1 .i64 .i64 _ _ 16 (by rfl) (by rfl) (by rfl) (by rfl) (by rw [hz2]; omega) (by unfold maxLen; omega) (by rw [← hs]; exact Nat.le_refl _) ?_; intro w1 hown0 hgrow0)
  have hb0 : Below s w w1 := (Below.refl _ _).grown hgrow0 (by rw [← hs]; exact Nat.le_refl _) (fun j hj => by cases hj)
  rw [upF_made F] at hown0
  clear hgrow0
  rw [hs] at hown0
  go_loopw [10] (fun i wr => ∃ k : Nat, k ≤ 16 ∧ i = .int .i64 (k : Int) ∧ wr.ownsRow s 3 1 (.slice (some ⟨s, 0, none⟩) 16 16) 16 ((listF 16 (upF F (fun _ => 0) k)).map (Value.int .i64)) ∧ Below s w wr) (fun i _ => 16 - (intOf i).toNat)
  case atStart => exact ⟨0, by omega, rfl, hown0, hb0⟩
  case round =>
    obtain ⟨k, hk, rfl, hown, hb⟩ := hrel
    clear hown0 hb0
    by_cases hlt : k < 16
    · have l0 : (0 : Int) ≤ (k : Int) := by omega
      have l1 : (k : Int) < 16 := by omega
      obtain ⟨hx, hF⟩ := HX.out k hlt
      have d1 := HI.out wr hb (qIx q k) hx
      have hcc := hown.cellAt k (by omega)
      rw [map_at _ hlt, upF_at] at hcc
      have hfz := hown.frozenAt k
      have hst := hown.stored k (.int .i64 (F k))
      have hbs := hb.grown hst.2 (by rw [← hs]; exact hb.size) (fun j hj => by cases hj; exact Nat.le_refl _)
      have hos := hst.1
      rw [upF_set] at hos
      rw [hF] at hos hbs
      have HPk : Hid (∀ w', Calls Tryz.prog 61 #[.int .i64 (q : Int), .int .i64 (k : Int)] w' fun e w'' => e = .returned (.int .i64 (qIx q k : Int)) ∧ w'' = w') := fun w' => HP.out k w' hlt
      generalize f (qIx q k) = x at *
      have y0 : (0 : Int) ≤ (qIx q k : Int) := by omega
      have y1 : (qIx q k : Int) < 64 := by omega
      generalize qIx q k = y at *
      clear hst hown hF
      go_wp2_with (go_at_call 61; refine (HPk.out _).mono ?_; rintro e w5 ⟨rfl, hw⟩; subst w5)
      refine ⟨⟨k + 1, by omega, by go_num, hos, hbs⟩, ?_⟩
      simp [intOf]; omega
    · obtain rfl : k = 16 := by omega
      rw [upF_full] at hown
      have HO : Hid (World.ownsRow _ _ _ _ _ _ _) := hown
      clear hown
      go_wp2
      go_ret
      exact ⟨⟨_, rfl, HO.out⟩, hb⟩

set_option maxHeartbeats 800000 in
theorem exactLevels_any (k : Bool) (q : Int) (g x : Bool) (p : Option Addr) (c : Nat) (f : Nat → Int) (w : World) (h : Ints w p (listF 64 f)) :
    Calls Tryz.prog 44 #[conV k q g x, .slice p 64 c] w fun e w' => (∃ v, e = .returned v ∧ RowF w' w.heap.size v 64 (fun j => f (scF 8 j))) ∧ Below w.heap.size w w' := by
  have hbA := (Below.refl w.heap.size w).alloc (Nat.le_refl _) (.cells #[.bool k, .int .i64 q, .bool g, .bool x] 27)
  have h1 := h.below hbA (Nat.le_refl _)
  clear h
  go_enter Tryz.func44, Tryz.ntmps44
  go_wp2_with fail
  generalize World.alloc w _ = W at *
  refine (implScan8 p c f W h1).mono ?_
  rintro e w1 ⟨⟨v, rfl, ho⟩, hc⟩
  have HO : Hid (World.ownsRow _ _ _ _ _ _ _) := own_mono ho hbA.size
  have hb1 := hbA.trans (hc.mono hbA.size)
  clear ho hc hbA h1
  go_wp2
  go_ret
  exact ⟨⟨_, rfl, HO.out⟩, hb1⟩

set_option maxHeartbeats 800000 in
theorem exactBack_any (k : Bool) (q : Int) (g x : Bool) (p : Option Addr) (c : Nat) (f : Nat → Int) (w : World) (h : Ints w p (listF 64 f)) :
    Calls Tryz.prog 45 #[conV k q g x, .slice p 64 c] w fun e w' => (∃ v, e = .returned v ∧ RowF w' w.heap.size v 64 (fun j => f (bkF 8 j))) ∧ Below w.heap.size w w' := by
  have hbA := (Below.refl w.heap.size w).alloc (Nat.le_refl _) (.cells #[.bool k, .int .i64 q, .bool g, .bool x] 27)
  have h1 := h.below hbA (Nat.le_refl _)
  clear h
  go_enter Tryz.func45, Tryz.ntmps45
  go_wp2_with fail
  generalize World.alloc w _ = W at *
  refine (implUnscan8 p c f W h1).mono ?_
  rintro e w1 ⟨⟨v, rfl, ho⟩, hc⟩
  have HO : Hid (World.ownsRow _ _ _ _ _ _ _) := own_mono ho hbA.size
  have hb1 := hbA.trans (hc.mono hbA.size)
  clear ho hc hbA h1
  go_wp2
  go_ret
  exact ⟨⟨_, rfl, HO.out⟩, hb1⟩

set_option maxHeartbeats 1600000 in
theorem largeLevels_any (k : Bool) (q : Int) (g x : Bool) (p : Option Addr) (c : Nat) (f : Nat → Int) (w : World) (h : Ints w p (listF 64 f)) (hc64 : 64 ≤ c) (hf : ∀ i, i < 64 → -1000 ≤ f i ∧ f i ≤ 1000) (ht : Tabs w) :
    Calls Tryz.prog 42 #[conV k q g x, .slice p 64 c] w fun e w' => (∃ v, e = .returned v ∧ RowF w' w.heap.size v 64 (fun j => lrgF q f (scF 8 j))) ∧ Below w.heap.size w w' := by
  have B0 := Blk.new w #[.bool k, .int .i64 q, .bool g, .bool x] 27
  have hb0 := (Below.refl w.heap.size w).alloc (Nat.le_refl _) (.cells #[.bool k, .int .i64 q, .bool g, .bool x] 27)
  have h1 := h.below hb0 (Nat.le_refl _)
  have HT : Hid (∀ w', Below w.heap.size w w' → TabC w' 2 scL) := fun w' hb => (ht.below hb).1
  obtain ⟨L, HLq⟩ : ∃ L, Hid (L = lrgF q f) := ⟨_, rfl⟩
  have HE : Hid (∀ i, L i = largeF (eightF f i) q) := fun i => by rw [HLq.out]; rfl
  clear h ht
  go_enter Tryz.func42, Tryz.ntmps42
  go_wp2_with fail
  generalize World.alloc w _ = V at *
  have BK : Hid (∀ w', Below V.heap.size V w' → w'.cell? ⟨w.heap.size, 1, none⟩ = some (.int .i64 q)) := fun w' h => (B0.below h B0.lt).four.1.2.1
  clear B0
  refine (implEightF p c f V hf h1 hc64).mono ?_
  rintro e w1 ⟨⟨v, rfl, ho⟩, hc⟩
  obtain ⟨gv, cv, rfl, hg1, hg2, hcv, _⟩ := ho.form (by omega)
  generalize eightF f = E at *
  have ho1 := ho
  unfold RowF at ho1
  rw [← upF_none L E 64] at ho1
  clear ho hf h1
  generalize hs : V.heap.size = s at *
  go_wp2_with fail
  go_loopw [14] (fun i wr => ∃ j : Nat, j ≤ 64 ∧ i = .int .i64 (j : Int) ∧ wr.ownsRow s 3 1 (.slice (some ⟨gv, 0, none⟩) 64 cv) 64 ((listF 64 (upF L E j)).map (Value.int .i64)) ∧ Below s V wr) (fun i _ => 64 - (intOf i).toNat)
  case atStart => exact ⟨0, by omega, rfl, ho1, hc⟩
  case round =>
    obtain ⟨j, hj, rfl, hown, hb⟩ := hrel
    clear ho1 hc
    by_cases hlt : j < 64
    · have l0 : (0 : Int) ≤ (j : Int) := by omega
      have l1 : (j : Int) < 64 := by omega
      have dq := BK.out wr hb
      have hcc := hown.cellAt j (by omega)
      rw [map_at _ hlt, upF_at] at hcc
      have hfz := hown.frozenAt j
      have hst := hown.stored j (.int .i64 (L j))
      have hbs := hb.grown hst.2 (by rw [← hs]; exact hb.size) (fun j hj => by cases hj; exact hg1)
      have hos := hst.1
      rw [upF_set] at hos
      have CL : Hid (Calls Tryz.prog 63 #[.int .i64 (E j), .int .i64 q] wr fun e w'' => e = .returned (.int .i64 (L j)) ∧ w'' = wr) := by
        rw [HE.out j]
        exact implLargeLevel (E j) q wr (HT.out wr (hb0.trans (hb.mono (by rw [← hs]; exact hb0.size))))
      generalize L j = y at *
      generalize E j = z at *
      clear hst hown
      go_wp2_with (go_at_call 63; refine (CL.out).mono ?_; rintro e w5 ⟨rfl, hw⟩; subst w5)
      refine ⟨⟨j + 1, by omega, by go_num, hos, hbs⟩, ?_⟩
      simp [intOf]; omega
    · obtain rfl : j = 64 := by omega
      rw [upF_full] at hown
      have hi : Ints wr (some ⟨gv, 0, none⟩) (listF 64 L) := RowF.at' hown
      go_wp2_with fail
      refine (implScan8 _ _ L wr hi).mono ?_
      rintro e w3 ⟨⟨v3, rfl, ho3⟩, hc3⟩
      have hb3 := hb0.trans ((hb.trans (hc3.mono (by rw [← hs]; exact hb.size))).mono (by rw [← hs]; exact hb0.size))
      have HO : Hid (World.ownsRow _ _ _ _ _ _ _) := own_mono (B' := w.heap.size) ho3 (by have := hb0.size; have := hb.size; omega)
      clear ho3 hc3 hown
      go_wp2
      go_ret
      exact ⟨⟨_, rfl, by have r := HO.out; rwa [HLq.out] at r⟩, hb3⟩

set_option maxHeartbeats 1600000 in
theorem largeBack_any (k : Bool) (q : Int) (g x : Bool) (p : Option Addr) (c : Nat) (f : Nat → Int) (w : World) (h : Ints w p (listF 64 f)) (ht : Tabs w) :
    Calls Tryz.prog 43 #[conV k q g x, .slice p 64 c] w fun e w' => (∃ v, e = .returned v ∧ RowF w' w.heap.size v 64 (lrbF q f)) ∧ Below w.heap.size w w' := by
  have B0 := Blk.new w #[.bool k, .int .i64 q, .bool g, .bool x] 27
  have hb0 := (Below.refl w.heap.size w).alloc (Nat.le_refl _) (.cells #[.bool k, .int .i64 q, .bool g, .bool x] 27)
  have h1 := h.below hb0 (Nat.le_refl _)
  have HT : Hid (∀ w', Below w.heap.size w w' → TabC w' 2 scL) := fun w' hb => (ht.below hb).1
  obtain ⟨E, HEq⟩ : ∃ E : Nat → Int, Hid (E = fun i => f (bkF 8 i)) := ⟨_, rfl⟩
  obtain ⟨L, HLq⟩ : ∃ L : Nat → Int, Hid (L = fun i => largeB (f (bkF 8 i)) q) := ⟨_, rfl⟩
  have HE : Hid (∀ i, L i = largeB (E i) q) := fun i => by rw [HLq.out, HEq.out]
  have HB : Hid (∀ i, i < 64 → -10000000 ≤ L i ∧ L i ≤ 10000000) := fun i hi => by
    rw [HE.out i]
    have := largeB_in (E i) q
    omega
  have HF : Hid ((fun i => (eightF L i + 32) / 64) = lrbF q f) := by show _ = _; rw [HLq.out]; rfl
  clear h ht
  go_enter Tryz.func43, Tryz.ntmps43
  go_wp2_with fail
  generalize World.alloc w _ = V at *
  have BK : Hid (∀ w', Below V.heap.size V w' → w'.cell? ⟨w.heap.size, 1, none⟩ = some (.int .i64 q)) := fun w' h => (B0.below h B0.lt).four.1.2.1
  clear B0
  refine (implUnscan8 p c f V h1).mono ?_
  rintro e w1 ⟨⟨v, rfl, ho⟩, hc⟩
  obtain ⟨gv, cv, rfl, hg1, hg2, hcv, _⟩ := ho.form (by omega)
  rw [← HEq.out] at ho
  have ho1 := ho
  unfold RowF at ho1
  rw [← upF_none L E 64] at ho1
  clear ho h1
  generalize hs : V.heap.size = s at *
  go_wp2_with fail
  go_loopw [16] (fun i wr => ∃ j : Nat, j ≤ 64 ∧ i = .int .i64 (j : Int) ∧ wr.ownsRow s 3 1 (.slice (some ⟨gv, 0, none⟩) 64 cv) 64 ((listF 64 (upF L E j)).map (Value.int .i64)) ∧ Below s V wr) (fun i _ => 64 - (intOf i).toNat)
  case atStart => exact ⟨0, by omega, rfl, ho1, hc⟩
  case round =>
    obtain ⟨j, hj, rfl, hown, hb⟩ := hrel
    clear ho1 hc
    by_cases hlt : j < 64
    · have l0 : (0 : Int) ≤ (j : Int) := by omega
      have l1 : (j : Int) < 64 := by omega
      have dq := BK.out wr hb
      have hcc := hown.cellAt j (by omega)
      rw [map_at _ hlt, upF_at] at hcc
      have hfz := hown.frozenAt j
      have hst := hown.stored j (.int .i64 (L j))
      have hbs := hb.grown hst.2 (by rw [← hs]; exact hb.size) (fun j hj => by cases hj; exact hg1)
      have hos := hst.1
      rw [upF_set] at hos
      have CL : Hid (Calls Tryz.prog 64 #[.int .i64 (E j), .int .i64 q] wr fun e w'' => e = .returned (.int .i64 (L j)) ∧ w'' = wr) := by
        rw [HE.out j]
        exact implLargeBack (E j) q wr (HT.out wr (hb0.trans (hb.mono (by rw [← hs]; exact hb0.size))))
      generalize L j = y at *
      generalize E j = z at *
      clear hst hown
      go_wp2_with (go_at_call 64; refine (CL.out).mono ?_; rintro e w5 ⟨rfl, hw⟩; subst w5)
      refine ⟨⟨j + 1, by omega, by go_num, hos, hbs⟩, ?_⟩
      simp [intOf]; omega
    · obtain rfl : j = 64 := by omega
      rw [upF_full] at hown
      have hi : Ints wr (some ⟨gv, 0, none⟩) (listF 64 L) := RowF.at' hown
      go_wp2_with fail
      refine (implEightBackF _ _ L wr HB.out hi hcv).mono ?_
      rintro e w3 ⟨⟨v3, rfl, ho3⟩, hc3⟩
      have hb3 := hb0.trans ((hb.trans (hc3.mono (by rw [← hs]; exact hb.size))).mono (by rw [← hs]; exact hb0.size))
      have HO : Hid (World.ownsRow _ _ _ _ _ _ _) := own_mono (B' := w.heap.size) ho3 (by have := hb0.size; have := hb.size; omega)
      clear ho3 hc3 hown
      go_wp2
      go_ret
      exact ⟨⟨_, rfl, by have r := HO.out; rwa [HF.out] at r⟩, hb3⟩
end Go.Proofs.YtlejfkjanllgbaaGreatDoor

namespace Go.Proofs.YtlejfkjanllgbaaGreatDoor
open Go.RowKit
set_option linter.unusedVariables false

/-- The levels of the small way, one quarter behind the other. -/
def smlA (q : Int) (f : Nat → Int) (j : Nat) : Int := smlF q (qtrF f (j / 16)) (scF 4 (j % 16))
theorem smlA_more (q : Int) (f : Nat → Int) (k : Nat) : (listF (16 * k) (smlA q f)).map (Value.int .i64) ++ (listF 16 (fun j => smlF q (qtrF f k) (scF 4 j))).map (Value.int .i64) = (listF (16 * k + 16) (smlA q f)).map (Value.int .i64) := by
  rw [← List.map_append, ← listF_append]
  congr 2
  refine listF_congr fun i hi => ?_
  unfold smlA
  rw [show (16 * k + i) / 16 = k by omega, show (16 * k + i) % 16 = i by omega]

set_option maxHeartbeats 3200000 in
theorem smallLevels_any (k : Bool) (q : Int) (g x : Bool) (p : Option Addr) (c : Nat) (f : Nat → Int) (w : World) (h : Ints w p (listF 64 f)) (hf : ∀ i, i < 64 → -1000 ≤ f i ∧ f i ≤ 1000) (ht : Tabs w) :
    Calls Tryz.prog 40 #[conV k q g x, .slice p 64 c] w fun e w' => (∃ v, e = .returned v ∧ RowF w' w.heap.size v 64 (smlA q f)) ∧ Below w.heap.size w w' := by
  obtain ⟨i0, hi0, hz0, hz1, hz2⟩ := info_parts infoI
  have B0 := Blk.new w #[.bool k, .int .i64 q, .bool g, .bool x] 27
  have hb0 := (Below.refl w.heap.size w).alloc (Nat.le_refl _) (.cells #[.bool k, .int .i64 q, .bool g, .bool x] 27)
  have HT : Hid (∀ w', Below w.heap.size w w' → TabC w' 1 shL ∧ TabC w' 0 kdL) := fun w' hb => (ht.below hb).2
  have HQ : Hid (∀ (m : Nat) w', m < 4 → Below w.heap.size w w' → Calls Tryz.prog 55 #[.slice p 64 c, .int .i64 (m : Int)] w' fun e w'' => (∃ v, e = .returned v ∧ RowF w'' w'.heap.size v 16 (qtrF f m)) ∧ Below w'.heap.size w' w'') := fun m w' hm hb => quarterOf_any p c m f w' (h.below hb (Nat.le_refl _)) hm
  have HF : Hid (∀ m, m < 4 → ∀ i, i < 16 → -1000 ≤ qtrF f m i ∧ qtrF f m i ≤ 1000) := fun m hm i hi => hf _ (qIx_lt hm hi)
  have HA : Hid (∀ m, (listF (16 * m) (smlA q f)).map (Value.int .i64) ++ (listF 16 (fun j => smlF q (qtrF f m) (scF 4 j))).map (Value.int .i64) = (listF (16 * m + 16) (smlA q f)).map (Value.int .i64)) := fun m => smlA_more q f m
  obtain ⟨A, HAq⟩ : ∃ A : Nat → Int, Hid (A = smlA q f) := ⟨_, rfl⟩
  rw [← HAq.out] at HA
  clear h hf ht
  go_enter Tryz.func40, Tryz.ntmps40
  go_wp2_with (at_make; generalize hV : World.alloc w _ = V at *; refine wpList_make_own _ rfl _ _ 24 rfl V.heap.size 3 i0 (.int .i64 0) 1 Tryz.underlying24 hi0 hz0 hz1 .i64 .i64 _ 64 rfl rfl rfl (by rw [hz2]; omega) (by unfold maxLen; omega) (Nat.le_refl _) ?_; intro w1 hown0 hgrow0; have hc1 : Below V.heap.size V w1 := (Below.refl _ _).grown hgrow0 (Nat.le_refl _) (fun j hj => by cases hj); clear hgrow0)
  have BK : Hid (∀ w', Below V.heap.size V w' → w'.cell? ⟨w.heap.size, 1, none⟩ = some (.int .i64 q)) := fun w' h => (B0.below h B0.lt).four.1.2.1
  clear B0
  generalize hs : V.heap.size = s at *
  have hws : w.heap.size ≤ s := by rw [← hs]; exact hb0.size
  go_loopw [5, 13] (fun u i wr => ∃ m : Nat, m ≤ 4 ∧ i = .int .i64 (m : Int) ∧ wr.ownsRow s 3 1 u (16 * m) ((listF (16 * m) A).map (Value.int .i64)) ∧ Below s V wr) (fun _ i _ => 4 - (intOf i).toNat)
  case atStart => exact ⟨0, by omega, rfl, hown0, hc1⟩
  case round =>
    obtain ⟨m, hm, rfl, hown, hb⟩ := hrel
    clear hown0 hc1
    have hbs : s ≤ wr.heap.size := by rw [← hs]; exact hb.size
    by_cases hlt : m < 4
    · have l0 : (0 : Int) ≤ (m : Int) := by omega
      have l1 : (m : Int) < 4 := by omega
      generalize wr = wh at *
      have HAm := HA.out m
      have HAh : Hid _ := HAm
      clear HAm
      go_wp2_with fail
      refine (HQ.out m wh hlt (hb0.trans (hb.mono hws))).mono ?_
      rintro e w2 ⟨⟨v2, rfl, ho2⟩, hc2⟩
      obtain ⟨g2, c2, rfl, _, _, _, hi2⟩ := ho2.form (by omega)
      clear ho2
      go_wp2_with fail
      refine (implFourF _ _ (qtrF f m) w2 (HF.out m hlt) hi2).mono ?_
      rintro e w3 ⟨⟨v3, rfl, ho3⟩, hc3⟩
      obtain ⟨g3, c3, rfl, hg3, _, _, _⟩ := ho3.form (by omega)
      have hc23 := hc2.trans (hc3.mono hc2.size)
      have hgh : wh.heap.size ≤ g3 := Nat.le_trans hc2.size hg3
      have ho4 := own_mono ho3 hc2.size
      obtain ⟨E, HEq⟩ : ∃ E : Nat → Int, Hid (E = turnF sumR (qtrF f m)) := ⟨_, rfl⟩
      obtain ⟨L, HLq⟩ : ∃ L : Nat → Int, Hid (L = smlF q (qtrF f m)) := ⟨_, rfl⟩
      have HE : Hid (∀ i, L i = smallF (E i) q (i : Int)) := fun i => by rw [HLq.out, HEq.out]; rfl
      rw [← HEq.out] at ho4
      rw [← HLq.out] at HAh
      rw [← upF_none L E 16] at ho4
      clear ho3 hc3 hc2 hi2 hg3
      generalize hz : wh.heap.size = z at *
      go_wp2_with fail
      go_loopw [22] (fun i wr => ∃ j : Nat, j ≤ 16 ∧ i = .int .i64 (j : Int) ∧ wr.ownsRow z 3 1 (.slice (some ⟨g3, 0, none⟩) 16 c3) 16 ((listF 16 (upF L E j)).map (Value.int .i64)) ∧ Below z wh wr) (fun i _ => 16 - (intOf i).toNat)
      case atStart => exact ⟨0, by omega, rfl, ho4, hc23⟩
      case round =>
        obtain ⟨j, hj, rfl, hownj, hbj⟩ := hrel
        clear ho4 hc23
        have hzj : z ≤ wr.heap.size := by rw [← hz]; exact hbj.size
        by_cases hlj : j < 16
        · have k0 : (0 : Int) ≤ (j : Int) := by omega
          have k1 : (j : Int) < 16 := by omega
          have hbV : Below s V wr := hb.trans (hbj.mono hbs)
          have dq := BK.out wr hbV
          have hcc := hownj.cellAt j (by omega)
          rw [map_at _ hlj, upF_at] at hcc
          have hfz := hownj.frozenAt j
          have hst := hownj.stored j (.int .i64 (L j))
          have hbn := hbj.grown hst.2 hzj (fun j hj => by cases hj; exact hgh)
          have hos := hst.1
          rw [upF_set] at hos
          have CL : Hid (Calls Tryz.prog 56 #[.int .i64 (E j), .int .i64 q, .int .i64 (j : Int)] wr fun e w'' => e = .returned (.int .i64 (L j)) ∧ w'' = wr) := by
            rw [HE.out j]
            obtain ⟨t1, t2⟩ := HT.out wr (hb0.trans (hbV.mono hws))
            exact implSmallLevel (E j) q (j : Int) wr t1 t2
          generalize L j = y at *
          generalize E j = e0 at *
          clear hst hownj
          go_wp2_with (go_at_call 56; refine (CL.out).mono ?_; rintro e w5 ⟨rfl, hw⟩; subst w5)
          refine ⟨⟨j + 1, by omega, by go_num, hos, hbn⟩, ?_⟩
          simp [intOf]; omega
        · obtain rfl : j = 16 := by omega
          rw [upF_full] at hownj
          have hi : Ints wr (some ⟨g3, 0, none⟩) (listF 16 L) := RowF.at' hownj
          clear hownj
          go_wp2_with fail
          refine (implScan4 _ _ L wr hi).mono ?_
          rintro e w6 ⟨⟨v6, rfl, ho6⟩, hc6⟩
          obtain ⟨g6, c6, rfl, _, _, _, hi6⟩ := ho6.form (by omega)
          have hzw : Below z wh w6 := hbj.trans (hc6.mono hzj)
          have hown6 := owned_below hown (by rw [hz]; exact hzw)
          have hb6 : Below s V w6 := hb.trans (hzw.mono hbs)
          have hs6 : s ≤ w6.heap.size := by rw [← hs]; exact hb6.size
          have HLn : Hid (((listF 16 (fun k => L (scF 4 k))).map (Value.int .i64)).length = 16 * 1) := by show _ = _; rw [List.length_map, listF_length]
          clear ho6 hc6 hi
          have NW := news_of_list hi6
          go_wp2_with (at_builtin; refine wpList_append_lies _ (by rfl) _ _ 24 (by rfl) s 3 i0 (.int .i64 0) 1 8 Tryz.underlying24 hi0 hz0 hz1 hz2 rfl (by omega) u5 (16 * m) _ (by rfl) hown6 ⟨g6, 0, none⟩ 16 c6 ((listF 16 (fun k => L (scF 4 k))).map (Value.int .i64)) (by rfl) HLn.out NW (ones_of_list _) (by omega) (by unfold maxLen; omega) (by omega) hs6 (w6.heap.size) rfl ?_; intro g7 c7 w7 hown7 hgrow hat hlt7)
          have hb7 := hb6.grown hgrow hs6 (base_of_own hown6)
          rw [HAh.out] at hown7
          have HO7 : Hid (World.ownsRow _ _ _ _ _ _ _) := hown7
          clear hown7 hown6 hgrow hat NW hi6
          refine ⟨⟨m + 1, by omega, by go_num, HO7.out, hb7⟩, ?_⟩
          simp [intOf]; omega
    · obtain rfl : m = 4 := by omega
      have HO : Hid (World.ownsRow _ _ _ _ _ _ _) := own_mono hown hws
      have hbf := hb0.trans (hb.mono hws)
      clear hown
      go_wp2
      go_ret
      exact ⟨⟨_, rfl, by have r := HO.out; rwa [HAq.out] at r⟩, hbf⟩
end Go.Proofs.YtlejfkjanllgbaaGreatDoor

namespace Go.Proofs.YtlejfkjanllgbaaGreatDoor
open Go.RowKit
set_option linter.unusedVariables false

/-- What comes back of the small way, place by place. -/
def smbA (q : Int) (l : Nat → Int) (p : Nat) : Int := smbF q (fun i => l (16 * inQ p + i)) (atQ p)
theorem smbA_at (q : Int) (l : Nat → Int) {m j : Nat} (hm : m < 4) (hj : j < 16) : smbA q l (qIx m j) = smbF q (fun i => l (16 * m + i)) j := by
  unfold smbA
  rw [inQ_qIx hm hj, atQ_qIx hm hj]
/-- Quarters ahead of the m-th are put, and j numbers of that one. -/
def bkTo (A : Nat → Int) (m j p : Nat) : Int := if p < 64 ∧ (inQ p < m ∨ (inQ p = m ∧ atQ p < j)) then A p else 0
theorem bkTo_set (A : Nat → Int) {m j : Nat} (hm : m < 4) (hj : j < 16) : ((listF 64 (bkTo A m j)).map (Value.int .i64)).set (qIx m j) (.int .i64 (A (qIx m j))) = (listF 64 (bkTo A m (j + 1))).map (Value.int .i64) := by
  unfold listF
  rw [List.map_map, List.map_map]
  have e : Value.int .i64 (A (qIx m j)) = (Value.int .i64 ∘ bkTo A m (j + 1)) (qIx m j) := by
    simp only [Function.comp, bkTo]
    rw [if_pos ⟨qIx_lt hm hj, .inr ⟨inQ_qIx hm hj, by rw [atQ_qIx hm hj]; omega⟩⟩]
  rw [e]
  refine int_range_set 64 _ _ _ (fun p hp => ?_)
  simp only [Function.comp, bkTo]
  by_cases h : p < 64 ∧ (inQ p < m ∨ (inQ p = m ∧ atQ p < j))
  · rw [if_pos h, if_pos ⟨h.1, by rcases h.2 with h2 | ⟨h2, h3⟩; exact .inl h2; exact .inr ⟨h2, by omega⟩⟩]
  · rw [if_neg h, if_neg (fun h2 => ?_)]
    obtain ⟨h3, h4⟩ := h2
    rcases h4 with h4 | ⟨h4, h5⟩
    · exact h ⟨h3, .inl h4⟩
    · by_cases h6 : atQ p < j
      · exact h ⟨h3, .inr ⟨h4, h6⟩⟩
      · refine hp ?_
        rw [← qIx_of h3, h4, show atQ p = j by omega]
theorem bkTo_made (A : Nat → Int) : (madeCells (Value.int .i64 0).cells (64 * 1)).toList = (listF 64 (bkTo A 0 0)).map (Value.int .i64) := by
  rw [int_made]
  unfold listF
  rw [List.map_map]
  apply List.map_congr_left
  intro i hi
  simp [bkTo]
theorem bkTo_next (A : Nat → Int) (m : Nat) : listF 64 (bkTo A m 16) = listF 64 (bkTo A (m + 1) 0) := listF_congr fun p hp => by
  have := atQ_lt p
  unfold bkTo
  by_cases h : inQ p < m + 1
  · rw [if_pos ⟨hp, by omega⟩, if_pos ⟨hp, by omega⟩]
  · rw [if_neg (by omega), if_neg (by omega)]
theorem bkTo_full (A : Nat → Int) : listF 64 (bkTo A 4 0) = listF 64 A := listF_congr fun p hp => by
  have := inQ_lt hp
  unfold bkTo
  rw [if_pos ⟨hp, by omega⟩]

set_option maxHeartbeats 3200000 in
theorem smallBack_any (k : Bool) (q : Int) (g x : Bool) (p : Option Addr) (c : Nat) (l : Nat → Int) (w : World) (h : Ints w p (listF 64 l)) (hc64 : 64 ≤ c) (ht : Tabs w) :
    Calls Tryz.prog 41 #[conV k q g x, .slice p 64 c] w fun e w' => (∃ v, e = .returned v ∧ RowF w' w.heap.size v 64 (smbA q l)) ∧ Below w.heap.size w w' := by
  obtain ⟨i0, hi0, hz0, hz1, hz2⟩ := info_parts infoI
  have B0 := Blk.new w #[.bool k, .int .i64 q, .bool g, .bool x] 27
  have hb0 := (Below.refl w.heap.size w).alloc (Nat.le_refl _) (.cells #[.bool k, .int .i64 q, .bool g, .bool x] 27)
  have HT : Hid (∀ w', Below w.heap.size w w' → TabC w' 2 scL ∧ TabC w' 0 kdL) := fun w' hb => ⟨(ht.below hb).1, (ht.below hb).2.2⟩
  obtain ⟨b, off, ha, hbl, hc0⟩ : ∃ b off : Nat, p = some ⟨b, off, none⟩ ∧ b < w.heap.size ∧ ∀ i, i < 64 → w.cell? ⟨b, off + i, none⟩ = some (.int .i64 (l i)) := by
    rcases h with h0 | ⟨b, off, ha, hb, hc⟩
    · have e := congrArg List.length h0
      rw [listF_length] at e
      cases e
    · exact ⟨b, off, ha, hb, fun i hi => by rw [hc i (by rw [listF_length]; exact hi), listF_get l hi]⟩
  subst ha
  have HI : Hid (∀ (m : Nat) w', m < 4 → Below w.heap.size w w' → Ints w' (some ⟨b, off + 16 * m, none⟩) (listF 16 (fun i => l (16 * m + i)))) := fun m w' hm hb => .inr ⟨b, off + 16 * m, rfl, Nat.lt_of_lt_of_le hbl hb.size, fun i hi => by
    rw [listF_length] at hi
    rw [listF_get _ hi, (hb.cell (p := ⟨b, off + 16 * m + i, none⟩) hbl), Nat.add_assoc, hc0 (16 * m + i) (by omega)]⟩
  have CU : Hid (∀ (m : Nat) w', m < 4 → Below w.heap.size w w' → Calls Tryz.prog 58 #[.int .i64 4, .slice (some ⟨b, off + m * 16, none⟩) ((m + 1) * 16 - m * 16) (c - m * 16)] w' fun e w'' => (∃ v, e = .returned (.tuple #[v, .bool true]) ∧ RowF w'' w'.heap.size v 16 (fun i => l (16 * m + bkF 4 i))) ∧ Below w'.heap.size w' w'') := fun m w' hm hb => by
    rw [show (m + 1) * 16 - m * 16 = 16 by omega, show m * 16 = 16 * m by omega]
    exact implUnscan4 _ _ (fun i => l (16 * m + i)) w' (HI.out m w' hm hb)
  clear h ht hbl hc0 HI
  go_enter Tryz.func41, Tryz.ntmps41
  obtain ⟨A, HAq⟩ : ∃ A : Nat → Int, Hid (A = smbA q l) := ⟨_, rfl⟩
  go_wp2_with (at_make; generalize hV : World.alloc w _ = V at *; refine wpList_make_full _ (by rfl) _ _ 24 (by rfl) V.heap.size 3 i0 (.int .i64 0) 1 Tryz.underlying24 hi0 hz0 hz1 .i64 .i64 _ _ 64 (by rfl) (by rfl) (by rfl) (by rfl) (by rw [hz2]; omega) (by unfold maxLen; omega) (Nat.le_refl _) ?_; intro w1 hown0 hgrow0; have hc1 : Below V.heap.size V w1 := (Below.refl _ _).grown hgrow0 (Nat.le_refl _) (fun j hj => by cases hj); clear hgrow0)
  rw [bkTo_made A] at hown0
  have BK : Hid (∀ w', Below V.heap.size V w' → w'.cell? ⟨w.heap.size, 1, none⟩ = some (.int .i64 q)) := fun w' h => (B0.below h B0.lt).four.1.2.1
  clear B0
  generalize hs : V.heap.size = s at *
  have hws : w.heap.size ≤ s := by rw [← hs]; exact hb0.size
  go_loopw [14] (fun i wr => ∃ m : Nat, m ≤ 4 ∧ i = .int .i64 (m : Int) ∧ wr.ownsRow s 3 1 (.slice (some ⟨s, 0, none⟩) 64 64) 64 ((listF 64 (bkTo A m 0)).map (Value.int .i64)) ∧ Below s V wr) (fun i _ => 4 - (intOf i).toNat)
  case atStart => exact ⟨0, by omega, rfl, hown0, hc1⟩
  case round =>
    obtain ⟨m, hm, rfl, hown, hb⟩ := hrel
    clear hown0 hc1
    have hbs : s ≤ wr.heap.size := by rw [← hs]; exact hb.size
    by_cases hlt : m < 4
    · have l0 : (0 : Int) ≤ (m : Int) := by omega
      have l1 : (m : Int) < 4 := by omega
      generalize wr = wh at *
      go_wp2_with fail
      refine (CU.out m wh hlt (hb0.trans (hb.mono hws))).mono ?_
      rintro e w2 ⟨⟨v2, rfl, ho2⟩, hc2⟩
      obtain ⟨g2, c2, rfl, hg2, _, _, _⟩ := ho2.form (by omega)
      obtain ⟨E, HEq⟩ : ∃ E : Nat → Int, Hid (E = fun i => l (16 * m + bkF 4 i)) := ⟨_, rfl⟩
      obtain ⟨L, HLq⟩ : ∃ L : Nat → Int, Hid (L = fun i => smallB (l (16 * m + bkF 4 i)) q (i : Int)) := ⟨_, rfl⟩
      have HE : Hid (∀ i, L i = smallB (E i) q (i : Int)) := fun i => by rw [HLq.out, HEq.out]
      have HB : Hid (∀ i, i < 16 → -10000000 ≤ L i ∧ L i ≤ 10000000) := fun i hi => by
        rw [HE.out i]
        have := smallB_in (E i) q (i : Int)
        omega
      have HX : Hid (∀ j, j < 16 → (turnF bakR L j + 32) / 64 = A (qIx m j)) := fun j hj => by
        rw [HAq.out, smbA_at q l hlt hj, HLq.out]
        rfl
      rw [← HEq.out] at ho2
      have ho4 := ho2
      unfold RowF at ho4
      rw [← upF_none L E 16] at ho4
      clear ho2
      generalize hz : wh.heap.size = z at *
      have hsz : s < z := by have := (hown.lt s rfl).2; omega
      go_wp2_with fail
      go_loopw [30] (fun i wr => ∃ j : Nat, j ≤ 16 ∧ i = .int .i64 (j : Int) ∧ wr.ownsRow z 3 1 (.slice (some ⟨g2, 0, none⟩) 16 c2) 16 ((listF 16 (upF L E j)).map (Value.int .i64)) ∧ Below z wh wr) (fun i _ => 16 - (intOf i).toNat)
      case atStart => exact ⟨0, by omega, rfl, ho4, hc2⟩
      case round =>
        obtain ⟨j, hj, rfl, hownj, hbj⟩ := hrel
        clear ho4 hc2
        have hzj : z ≤ wr.heap.size := by rw [← hz]; exact hbj.size
        by_cases hlj : j < 16
        · have k0 : (0 : Int) ≤ (j : Int) := by omega
          have k1 : (j : Int) < 16 := by omega
          have hbV : Below s V wr := hb.trans (hbj.mono hbs)
          have dq := BK.out wr hbV
          have hcc := hownj.cellAt j (by omega)
          rw [map_at _ hlj, upF_at] at hcc
          have hfz := hownj.frozenAt j
          have hst := hownj.stored j (.int .i64 (L j))
          have hbn := hbj.grown hst.2 hzj (fun j hj => by cases hj; exact hg2)
          have hos := hst.1
          rw [upF_set] at hos
          have CL : Hid (Calls Tryz.prog 59 #[.int .i64 (E j), .int .i64 q, .int .i64 (j : Int)] wr fun e w'' => e = .returned (.int .i64 (L j)) ∧ w'' = wr) := by
            rw [HE.out j]
            obtain ⟨t1, t2⟩ := HT.out wr (hb0.trans (hbV.mono hws))
            exact implSmallBack (E j) q (j : Int) wr t1 t2
          generalize L j = y at *
          generalize E j = e0 at *
          clear hst hownj
          go_wp2_with (go_at_call 59; refine (CL.out).mono ?_; rintro e w5 ⟨rfl, hw⟩; subst w5)
          refine ⟨⟨j + 1, by omega, by go_num, hos, hbn⟩, ?_⟩
          simp [intOf]; omega
        · obtain rfl : j = 16 := by omega
          rw [upF_full] at hownj
          have hi : Ints wr (some ⟨g2, 0, none⟩) (listF 16 L) := RowF.at' hownj
          clear hownj
          go_wp2_with fail
          refine (implFourBackF _ _ L wr HB.out hi).mono ?_
          rintro e w6 ⟨⟨v6, rfl, ho6⟩, hc6⟩
          obtain ⟨g6, c6, rfl, hg6, hl6, _, _⟩ := ho6.form (by omega)
          have e6 : listF 16 (fun i => (turnF bakR L i + 32) / 64) = listF 16 (fun j => A (qIx m j)) := listF_congr fun i hi => HX.out i hi
          unfold RowF at ho6
          rw [e6] at ho6
          have hi6 : Ints w6 (some ⟨g6, 0, none⟩) (listF 16 (fun j => A (qIx m j))) := RowF.at' ho6
          have hzw : Below z wh w6 := hbj.trans (hc6.mono hzj)
          have hown6 := owned_below hown (by rw [hz]; exact hzw)
          have hb6 : Below s V w6 := hb.trans (hzw.mono hbs)
          have hs6 : s < g6 := by omega
          clear ho6 hc6 hi e6 hzw hown hbj
          have CP : Hid (∀ (j : Nat) w', j < 16 → Calls Tryz.prog 61 #[.int .i64 (m : Int), .int .i64 (j : Int)] w' fun e w'' => e = .returned (.int .i64 (qIx m j : Int)) ∧ w'' = w') := fun j w' hj => placeIn_any m j w' hlt hj
          have HS : Hid (∀ j, j < 16 → ((listF 64 (bkTo A m j)).map (Value.int .i64)).set (qIx m j) (.int .i64 (A (qIx m j))) = (listF 64 (bkTo A m (j + 1))).map (Value.int .i64)) := fun j hj => bkTo_set A hlt hj
          have HQl : Hid (∀ j, j < 16 → qIx m j < 64) := fun j hj => qIx_lt hlt hj
          generalize wr = wj at *
          go_wp2_with fail
          go_loopw [47] (fun i wr => ∃ j : Nat, j ≤ 16 ∧ i = .int .i64 (j : Int) ∧ wr.ownsRow s 3 1 (.slice (some ⟨s, 0, none⟩) 64 64) 64 ((listF 64 (bkTo A m j)).map (Value.int .i64)) ∧ Ints wr (some ⟨g6, 0, none⟩) (listF 16 (fun j => A (qIx m j))) ∧ Below s V wr) (fun i _ => 16 - (intOf i).toNat)
          case atStart => exact ⟨0, by omega, rfl, hown6, hi6, hb6⟩
          case round =>
            obtain ⟨j, hj, rfl, hownk, hik, hbk⟩ := hrel
            clear hown6 hi6 hb6
            by_cases hlk : j < 16
            · have k0 : (0 : Int) ≤ (j : Int) := by omega
              have k1 : (j : Int) < 16 := by omega
              have hq64 := HQl.out j hlk
              have d6 := ints_there hik (k := j) (by rw [listF_length]; exact hlk)
              rw [listF_get _ hlk, Nat.zero_add] at d6
              have hcc := hownk.cellAt (qIx m j) (by omega)
              rw [map_at _ hq64] at hcc
              have hfz := hownk.frozenAt (qIx m j)
              have hst := hownk.stored (qIx m j) (.int .i64 (A (qIx m j)))
              have hbn := hbk.grown hst.2 (by rw [← hs]; exact hbk.size) (fun j hj => by cases hj; exact Nat.le_refl _)
              have hos := hst.1
              rw [HS.out j hlk] at hos
              have hin := hik.set ⟨s, qIx m j, none⟩ (.int .i64 (A (qIx m j))) (fun p hp => by cases hp; exact hs6)
              have HIN : Hid (Ints _ _ _) := hin
              have CPj : Hid (∀ w', Calls Tryz.prog 61 #[.int .i64 (m : Int), .int .i64 (j : Int)] w' fun e w'' => e = .returned (.int .i64 (qIx m j : Int)) ∧ w'' = w') := fun w' => CP.out j w' hlk
              clear hst hownk hik hin
              generalize A (qIx m j) = y at *
              have y0 : (0 : Int) ≤ (qIx m j : Int) := by omega
              have y1 : (qIx m j : Int) < 64 := by omega
              generalize qIx m j = u at *
              go_wp2_with (go_at_call 61; refine (CPj.out _).mono ?_; rintro e w5 ⟨rfl, hw⟩; subst w5)
              refine ⟨⟨j + 1, by omega, by go_num, hos, HIN.out, hbn⟩, ?_⟩
              simp [intOf]; omega
            · obtain rfl : j = 16 := by omega
              rw [bkTo_next] at hownk
              have HO7 : Hid (World.ownsRow _ _ _ _ _ _ _) := hownk
              clear hownk hik
              go_wp2
              refine ⟨⟨m + 1, by omega, by go_num, HO7.out, hbk⟩, ?_⟩
              simp [intOf]; omega
    · obtain rfl : m = 4 := by omega
      rw [bkTo_full] at hown
      have HO : Hid (World.ownsRow _ _ _ _ _ _ _) := own_mono hown hws
      have hbf := hb0.trans (hb.mono hws)
      clear hown
      go_wp2
      go_ret
      exact ⟨⟨_, rfl, by have r := HO.out; rwa [HAq.out] at r⟩, hbf⟩
end Go.Proofs.YtlejfkjanllgbaaGreatDoor
