/-
  Drawn edges and wanted dots with their values: the walks of spec.DrawEdges and spec.DrawWant.
-/
import Derived.Test.YthmcedfkfoagdaaEdgesDraw
namespace Go.Proofs.Ythmcedfkfoagdaa
open Go.RowKit
set_option linter.unusedVariables false
set_option maxRecDepth 20000

def dX (zs : List Int) : List Int := if edgesB (edX zs (newF zs)) (edY zs (newF zs)) (edC zs (newF zs)) = true then edX zs (newF zs) else []
def dY (zs : List Int) : List Int := if edgesB (edX zs (newF zs)) (edY zs (newF zs)) (edC zs (newF zs)) = true then edY zs (newF zs) else []
def dC (zs : List Int) : Int := if edgesB (edX zs (newF zs)) (edY zs (newF zs)) (edC zs (newF zs)) = true then edC zs (newF zs) else -1
theorem d_ok (zs : List Int) : edgesB (dX zs) (dY zs) (dC zs) = true := by
  unfold dX dY dC
  by_cases h : edgesB (edX zs (newF zs)) (edY zs (newF zs)) (edC zs (newF zs)) = true
  · simp only [if_pos h]; exact h
  · simp only [if_neg h]; decide
theorem ints_none (w : World) : Ints w none [] := by
  have h : w.ownsRow 0 3 1 (.slice none 0 0) 0 (([] : List Int).map (Value.int .i64)) := ⟨rfl, .inl ⟨rfl, rfl⟩⟩
  exact owned_at h

theorem Ints.off_blk {w : World} {a : Option Addr} {xs : List Int} {k : Nat} {cs : Array Value} {t : TypeId} (h : Ints w a xs) (hb : Blk w k cs t) (hs : cs.size = 3) (hl : xs.length = 0 ∨ xs.length = 8) (j : Nat) (v : Value) : Ints (w.setCell ⟨k, j, none⟩ v) a xs := by
  rcases h with h | ⟨b, off, rfl, hg, hc⟩
  · exact .inl h
  rcases hl with h0 | h8
  · exact .inl (List.eq_nil_of_length_eq_zero h0)
  have hne : b ≠ k := by
    rintro rfl
    have := hc 3 (by omega)
    rw [hb.cell (off + 3), Array.getElem?_eq_none (by omega)] at this
    cases this
  refine .inr ⟨b, off, rfl, by simpa [World.setCell] using hg, fun i hi => ?_⟩
  rw [World.cell?_setCell_other _ _ _ _ (by intro h; exact hne (congrArg Addr.block h).symm)]
  exact hc i hi
theorem Ints.off_three {w : World} {a : Option Addr} {xs : List Int} {k : Nat} {u0 u1 u2 : Value} {t : TypeId} (h : Ints w a xs) (hb : Blk w k #[u0, u1, u2] t) (hl : xs.length = 0 ∨ xs.length = 8) (v0 v1 v2 : Value) : Ints (((w.setCell ⟨k, 0, none⟩ v0).setCell ⟨k, 1, none⟩ v1).setCell ⟨k, 2, none⟩ v2) a xs :=
  ((h.off_blk hb rfl hl 0 v0).off_blk (hb.set 0 v0 (by simp)) rfl hl 1 v1).off_blk ((hb.set 0 v0 (by simp)).set 1 v1 (by simp)) rfl hl 2 v2

set_option maxHeartbeats 3200000 in
theorem drawEdges_val (a : Option Addr) (cap B : Nat) (zs : List Int) (w : World) (hc : CodeV w B a zs) (hB : B ≤ w.heap.size) :
    Calls Try.prog 11 #[.slice a zs.length cap] w fun e w' => (∃ a1 a2 c1 c2, e = .returned (edgV a1 (dX zs).length c1 a2 (dY zs).length c2 (dC zs)) ∧ Ints w' a1 (dX zs) ∧ Ints w' a2 (dY zs)) ∧ Below w.heap.size w w' := by
  have lx := edX_len zs (newF zs)
  have ly := edY_len zs (newF zs)
  have HD : Hid ((dX zs = if edgesB (edX zs (newF zs)) (edY zs (newF zs)) (edC zs (newF zs)) = true then edX zs (newF zs) else []) ∧ (dY zs = if edgesB (edX zs (newF zs)) (edY zs (newF zs)) (edC zs (newF zs)) = true then edY zs (newF zs) else []) ∧ (dC zs = if edgesB (edX zs (newF zs)) (edY zs (newF zs)) (edC zs (newF zs)) = true then edC zs (newF zs) else -1)) := ⟨rfl, rfl, rfl⟩
  have HN : Hid (∀ w', Below w.heap.size w w' → Calls Try.prog 37 #[.slice a zs.length cap] w' fun e w'' => e = .returned (.pointer (some ⟨w'.heap.size, 0, none⟩)) ∧ CurV w'' w'.heap.size a zs.length (newF zs) ∧ Below w'.heap.size w' w'') := fun w' hb => new_val a cap B zs w' (hc.below (hb.mono hB)) (Nat.le_trans hB hb.size)
  have HE : Hid (∀ g, B ≤ g → ∀ w', Below w.heap.size w w' → CurV w' g a zs.length (newF zs) → Calls Try.prog 36 #[.pointer (some ⟨g, 0, none⟩)] w' fun e w'' => (∃ a1 a2 c1 c2, e = .returned (edgV a1 (edX zs (newF zs)).length c1 a2 (edY zs (newF zs)).length c2 (edC zs (newF zs))) ∧ Ints w'' a1 (edX zs (newF zs)) ∧ Ints w'' a2 (edY zs (newF zs))) ∧ Kept w' w'' g) := fun g hg w' hb hcur => l13Edges_val g a zs B (newF zs) w' (hc.below (hb.mono hB)) hg hcur
  have HL : Hid (edgesB (edX zs (newF zs)) (edY zs (newF zs)) (edC zs (newF zs)) = true → ((edX zs (newF zs)).length = 0 ∨ (edX zs (newF zs)).length = 8) ∧ ((edY zs (newF zs)).length = 0 ∨ (edY zs (newF zs)).length = 8)) := fun h => ⟨(edgeB_iff.1 (edgesB_iff.1 h).1).1, (edgeB_iff.1 (edgesB_iff.1 h).2.1).1⟩
  have HK : Hid (∀ (a1 a2 : Option Addr) (c1 c2 : Nat) w', Ints w' a1 (edX zs (newF zs)) → Ints w' a2 (edY zs (newF zs)) → Calls Try.prog 28 #[edgV a1 (edX zs (newF zs)).length c1 a2 (edY zs (newF zs)).length c2 (edC zs (newF zs))] w' fun e w'' => e = .returned (.bool (edgesB (edX zs (newF zs)) (edY zs (newF zs)) (edC zs (newF zs)))) ∧ Below w'.heap.size w' w'') := fun a1 a2 c1 c2 w' h1 h2 => specEdgesOk a1 a2 c1 c2 _ _ _ w' h1 h2 (by unfold maxLen; omega) (by unfold maxLen; omega)
  generalize edX zs (newF zs) = FX at *
  generalize edY zs (newF zs) = FY at *
  generalize edC zs (newF zs) = FC at *
  generalize dX zs = RX at *
  generalize dY zs = RY at *
  generalize dC zs = RC at *
  generalize edgesB FX FY FC = E at *
  generalize newF zs = S at *
  generalize hzl : zs.length = len at *
  clear hc hzl
  go_enter Try.func11, Try.ntmps11
  go_wp2_with fail
  generalize hW : World.alloc w _ = V
  have bR : Blk V w.heap.size #[.slice none 0 0, .slice none 0 0, .int .i64 0] 26 := by rw [← hW]; exact Blk.new w _ _
  have b0 : Below w.heap.size w V := by rw [← hW]; exact (Below.refl _ _).alloc (Nat.le_refl _) _
  have hVw : w.heap.size < V.heap.size := bR.lt
  clear hW
  refine (HN.out V b0).mono ?_
  rintro e u1 ⟨rfl, cv, hb⟩
  have b1 := b0.trans (hb.mono b0.size)
  have r1 := bR.below hb bR.lt
  have hg := cv.lt
  clear hb b0 bR
  go_wp2_with fail
  refine (HE.out V.heap.size (by omega) u1 b1 cv).mono ?_
  rintro e u2 ⟨⟨a1, a2, c1, c2, rfl, i1, i2⟩, hk⟩
  have b2 : Below w.heap.size w u2 := b1.grown hk b1.size (fun k h => by cases h; omega)
  have r2 := r1.grew hk (by intro e; have := Option.some.inj e; omega)
  clear hk b1 r1 cv
  go_wp2_with fail
  have X5 : Blk (u2.alloc (.cells #[.slice a1 FX.length c1, .slice a2 FY.length c2, .int .i64 FC] 26)) u2.heap.size _ _ := Blk.new u2 _ _
  have r5 := r2.alloc (.cells #[.slice a1 FX.length c1, .slice a2 FY.length c2, .int .i64 FC] 26)
  have hb5 := (Below.refl u2.heap.size u2).alloc (Nat.le_refl _) (.cells #[.slice a1 FX.length c1, .slice a2 FY.length c2, .int .i64 FC] 26)
  have b5 := b2.alloc b2.size (.cells #[.slice a1 FX.length c1, .slice a2 FY.length c2, .int .i64 FC] 26)
  have i15 := i1.below hb5 (Nat.le_refl _)
  have i25 := i2.below hb5 (Nat.le_refl _)
  clear hb5 r2 b2 i1 i2
  generalize u2.alloc _ = u5 at *
  refine (HK.out a1 a2 c1 c2 u5 i15 i25).mono ?_
  rintro e u6 ⟨rfl, hb6⟩
  have b6 := b5.trans (hb6.mono b5.size)
  have X6 := X5.below hb6 X5.lt
  have r6 := r5.below hb6 r5.lt
  have i16 := i15.below hb6 (Nat.le_refl _)
  have i26 := i25.below hb6 (Nat.le_refl _)
  clear hb6 X5 r5 b5 i15 i25
  rcases E with _ | _
  · have HF : Hid (RX = [] ∧ RY = [] ∧ RC = -1) := HD.out
    clear HD X6 HK HN HE
    obtain ⟨⟨m0, m1, m2⟩, n0, n1, n2⟩ := r6.three
    have rF : Hid (Blk _ _ _ _) := ((r6.set 0 (.slice none 0 0) (by simp)).set 1 (.slice none 0 0) (by simp)).set 2 (.int .i64 (-1)) (by simp)
    have bF := ((b6.setCell (p := ⟨w.heap.size, 0, none⟩) (Nat.le_refl _) (.slice none 0 0)).setCell (p := ⟨w.heap.size, 1, none⟩) (Nat.le_refl _) (.slice none 0 0)).setCell (p := ⟨w.heap.size, 2, none⟩) (Nat.le_refl _) (.int .i64 (-1))
    have BF : Hid (Below _ _ _) := bF
    clear r6 b6 bF
    go_wp2
    (try simp only [Exit.inBlock, Exit.then])
    refine bodyPost_ret (results_cell_row rfl _ _ w.heap.size 26 _ (0, 0) _ rfl rF.out Try.underlying26 rfl (by kernel_rfl)) rfl ?_
    rw [HF.out.1, HF.out.2.1, HF.out.2.2]
    exact ⟨⟨none, none, 0, 0, rfl, ints_none _, ints_none _⟩, BF.out⟩
  · have HF : Hid (RX = FX ∧ RY = FY ∧ RC = FC) := HD.out
    have x6 := X6.three.1
    obtain ⟨x0, x1, x2⟩ := x6
    clear HD X6 HK HN HE
    obtain ⟨⟨m0, m1, m2⟩, n0, n1, n2⟩ := r6.three
    have rF : Hid (Blk _ _ _ _) := ((r6.set 0 (.slice a1 FX.length c1) (by simp)).set 1 (.slice a2 FY.length c2) (by simp)).set 2 (.int .i64 FC) (by simp)
    have bF := ((b6.setCell (p := ⟨w.heap.size, 0, none⟩) (Nat.le_refl _) (.slice a1 FX.length c1)).setCell (p := ⟨w.heap.size, 1, none⟩) (Nat.le_refl _) (.slice a2 FY.length c2)).setCell (p := ⟨w.heap.size, 2, none⟩) (Nat.le_refl _) (.int .i64 FC)
    have BF : Hid (Below _ _ _) := bF
    have I1 : Hid (Ints _ _ _) := i16.off_three r6 (HL.out rfl).1 (.slice a1 FX.length c1) (.slice a2 FY.length c2) (.int .i64 FC)
    have I2 : Hid (Ints _ _ _) := i26.off_three r6 (HL.out rfl).2 (.slice a1 FX.length c1) (.slice a2 FY.length c2) (.int .i64 FC)
    clear r6 b6 bF
    go_wp2
    (try simp only [Exit.inBlock, Exit.then])
    refine bodyPost_ret (results_cell_row rfl _ _ w.heap.size 26 _ (0, 0) _ rfl rF.out Try.underlying26 rfl (by kernel_rfl)) rfl ?_
    rw [HF.out.1, HF.out.2.1, HF.out.2.2]
    exact ⟨⟨a1, a2, c1, c2, rfl, I1.out, I2.out⟩, BF.out⟩

def dW (zs : List Int) : List Int := byteL (strOfNums (dotsF zs 64 (newF zs)).1)
theorem dW_len (zs : List Int) : (dW zs).length = 64 := by unfold dW byteL; rw [listF_length, strOfNums_size, dotsF_len]
theorem dW_want (zs : List Int) : wantB (dW zs) = true := by
  have h : dotsB (dW zs) = true := by
    rw [dotsB_iff]
    intro i hi
    rw [dW_len] at hi
    unfold dW byteL
    rw [listF_get _ (by rw [strOfNums_size, dotsF_len]; exact hi)]
    exact bAt_in _ _
  unfold wantB
  rw [dW_len, h]; rfl
set_option maxHeartbeats 1600000 in
theorem drawWant_val (a : Option Addr) (cap B : Nat) (zs : List Int) (w : World) (hc : CodeV w B a zs) (hB : B ≤ w.heap.size) :
    Calls Try.prog 15 #[.slice a zs.length cap] w fun e w' => (∃ p q, e = .returned (.slice p 64 q) ∧ Ints w' p (dW zs)) ∧ Below w.heap.size w w' := by
  have HN : Hid (Calls Try.prog 37 #[.slice a zs.length cap] w fun e w'' => e = .returned (.pointer (some ⟨w.heap.size, 0, none⟩)) ∧ CurV w'' w.heap.size a zs.length (newF zs) ∧ Below w.heap.size w w'') := new_val a cap B zs w hc hB
  have HD : Hid (∀ w', Below w.heap.size w w' → CurV w' w.heap.size a zs.length (newF zs) → Calls Try.prog 44 #[.pointer (some ⟨w.heap.size, 0, none⟩), .int .i64 64] w' fun e w'' => e = .returned (.string (strOfNums (dotsF zs 64 (newF zs)).1)) ∧ w'.grownBy w'' (some w.heap.size)) := fun w' hb q => (dots_val w.heap.size a zs B 64 (newF zs) w' (hc.below (hb.mono hB)) hB q (by decide)).mono (fun e w'' h => ⟨h.1, h.2.2⟩)
  have HI : Hid (∀ w', Calls Try.prog 43 #[.string (strOfNums (dotsF zs 64 (newF zs)).1)] w' fun e w'' => (∃ p q, e = .returned (.slice p 64 q) ∧ Ints w'' p (dW zs)) ∧ Below w'.heap.size w' w'') := fun w' => by
    refine (ints_val (strOfNums (dotsF zs 64 (newF zs)).1) w' (by rw [strOfNums_size, dotsF_len]; decide)).mono ?_
    rintro e w'' ⟨⟨v, rfl, ho⟩, hb⟩
    obtain ⟨p, q, rfl⟩ := own_slice ho
    have hl : (byteL (strOfNums (dotsF zs 64 (newF zs)).1)).length = 64 := dW_len zs
    exact ⟨⟨p, q, by rw [hl], owned_at ho⟩, hb⟩
  generalize strOfNums (dotsF zs 64 (newF zs)).1 = s at *
  generalize dW zs = W at *
  generalize newF zs = S at *
  generalize hzl : zs.length = len at *
  clear hc hzl
  go_enter Try.func15, Try.ntmps15
  go_wp2_with fail
  refine HN.out.mono ?_
  rintro e u1 ⟨rfl, cv, hb⟩
  go_wp2_with fail
  refine (HD.out u1 hb cv).mono ?_
  rintro e u2 ⟨rfl, hk⟩
  have b2 : Below w.heap.size w u2 := hb.grown hk hb.size (fun k h => by cases h; exact Nat.le_refl _)
  clear hk hb cv
  go_wp2_with fail
  refine (HI.out u2).mono ?_
  rintro e u3 ⟨⟨p, q, rfl, hi⟩, hb⟩
  have b3 := b2.trans (hb.mono b2.size)
  clear hb b2
  go_wp2
  go_ret
  exact ⟨⟨p, q, rfl, hi⟩, b3⟩
end Go.Proofs.Ythmcedfkfoagdaa
