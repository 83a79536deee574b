/-
  Drawn dots with their values: the walk of spec.DrawWant.
  Drawn edges and wanted dots with their values: the walks of spec.DrawEdges and spec.DrawWant.
  The bytes of a code as a list.
  The walk of laws.FnBestGuess: the best guess of drawn dots beside drawn edges is the first of those that cost least.
-/
import Derived.Test.YtkakiollhhmmaaaDrawAll
import Derived.Test.YtkakiollhhmmaaaEdgeMath
import Derived.Test.YtkakiollhhmmaaaEdgesDraw
import Derived.Test.YtkakiollhhmmaaaCodeKit
import Derived.Test.YtkakiollhhmmaaaCstAll
import Derived.Test.YtkakiollhhmmaaaBestSpec
import Derived.Test.YtkakiollhhmmaaaBestImpl
import Derived.Deep.RegionLaw
import Derived.Deep.CutRange
import Derived.Deep.AppendLies
namespace Go.Proofs.Ytkakiollhhmmaaa
open Go.RowKit
set_option linter.unusedVariables false
set_option maxRecDepth 20000

def dW (zs : List Int) : List Int := byteL (strOfNums (dotsF zs 64 (newF zs)).1)
theorem dW_len (zs : List Int) : (dW zs).length = 64 := by unfold dW byteL; rw [listF_length, strOfNums_size, dotsF_len]
theorem dW_want (zs : List Int) : wantB (dW zs) = true := by
  have h : dotsB (dW zs) = true := by
    rw [dotsB_iff]
    intro i hi
    rw [dW_len] at hi
    unfold dW byteL
    rw [listF_get _ (by rw [strOfNums_size, dotsF_len]; exact hi)]
    exact bAt_in _ _
  unfold wantB
  rw [dW_len, h]; rfl
set_option maxHeartbeats 1600000 in
theorem drawWant_val (a : Option Addr) (cap B : Nat) (zs : List Int) (w : World) (hc : CodeV w B a zs) (hB : B ≤ w.heap.size) :
    Calls Try.prog 8 #[.slice a zs.length cap] w fun e w' => (∃ p q, e = .returned (.slice p 64 q) ∧ Ints w' p (dW zs)) ∧ Below w.heap.size w w' := by
  have HN : Hid (Calls Try.prog 21 #[.slice a zs.length cap] w fun e w'' => e = .returned (.pointer (some ⟨w.heap.size, 0, none⟩)) ∧ CurV w'' w.heap.size a zs.length (newF zs) ∧ Below w.heap.size w w'') := new_val a cap B zs w hc hB
  have HD : Hid (∀ w', Below w.heap.size w w' → CurV w' w.heap.size a zs.length (newF zs) → Calls Try.prog 24 #[.pointer (some ⟨w.heap.size, 0, none⟩), .int .i64 64] w' fun e w'' => e = .returned (.string (strOfNums (dotsF zs 64 (newF zs)).1)) ∧ w'.grownBy w'' (some w.heap.size)) := fun w' hb q => (dots_val w.heap.size a zs B 64 (newF zs) w' (hc.below (hb.mono hB)) hB q (by decide)).mono (fun e w'' h => ⟨h.1, h.2.2⟩)
  have HI : Hid (∀ w', Calls Try.prog 23 #[.string (strOfNums (dotsF zs 64 (newF zs)).1)] w' fun e w'' => (∃ p q, e = .returned (.slice p 64 q) ∧ Ints w'' p (dW zs)) ∧ Below w'.heap.size w' w'') := fun w' => by
    refine (ints_val (strOfNums (dotsF zs 64 (newF zs)).1) w' (by rw [strOfNums_size, dotsF_len]; decide)).mono ?_
    rintro e w'' ⟨⟨v, rfl, ho⟩, hb⟩
    obtain ⟨p, q, rfl, hi, _⟩ := ints_of_owns ho
    have hl : (byteL (strOfNums (dotsF zs 64 (newF zs)).1)).length = 64 := dW_len zs
    exact ⟨⟨p, q, by rw [hl], hi⟩, hb⟩
  generalize strOfNums (dotsF zs 64 (newF zs)).1 = s at *
  generalize dW zs = W at *
  generalize newF zs = S at *
  generalize hzl : zs.length = len at *
  clear hc hzl
  go_enter Try.func8, Try.ntmps8
  go_wp2_with fail
  refine HN.out.mono ?_
  rintro e u1 ⟨rfl, cv, hb⟩
  go_wp2_with fail
  refine (HD.out u1 hb cv).mono ?_
  rintro e u2 ⟨rfl, hk⟩
  have b2 : Below w.heap.size w u2 := hb.grown hk hb.size (fun k h => by cases h; exact Nat.le_refl _)
  clear hk hb cv
  go_wp2_with fail
  refine (HI.out u2).mono ?_
  rintro e u3 ⟨⟨p, q, rfl, hi⟩, hb⟩
  have b3 := b2.trans (hb.mono b2.size)
  clear hb b2
  go_wp2
  go_ret
  exact ⟨⟨p, q, rfl, hi⟩, b3⟩
end Go.Proofs.Ytkakiollhhmmaaa

namespace Go.Proofs.Ytkakiollhhmmaaa
open Go.RowKit
set_option linter.unusedVariables false

def dX (zs : List Int) : List Int := if edgesB (edX zs (newF zs)) (edY zs (newF zs)) (edC zs (newF zs)) = true then edX zs (newF zs) else []
def dY (zs : List Int) : List Int := if edgesB (edX zs (newF zs)) (edY zs (newF zs)) (edC zs (newF zs)) = true then edY zs (newF zs) else []
def dC (zs : List Int) : Int := if edgesB (edX zs (newF zs)) (edY zs (newF zs)) (edC zs (newF zs)) = true then edC zs (newF zs) else -1
theorem d_ok (zs : List Int) : edgesB (dX zs) (dY zs) (dC zs) = true := by
  unfold dX dY dC
  by_cases h : edgesB (edX zs (newF zs)) (edY zs (newF zs)) (edC zs (newF zs)) = true
  · simp only [if_pos h]; exact h
  · simp only [if_neg h]; decide
theorem ints_none (w : World) : Ints w none [] := by
  have h : w.ownsRow 0 3 1 (.slice none 0 0) 0 (([] : List Int).map (Value.int .i64)) := ⟨rfl, .inl ⟨rfl, rfl⟩⟩
  exact owned_at h

theorem Ints.off_blk {w : World} {a : Option Addr} {xs : List Int} {k : Nat} {cs : Array Value} {t : TypeId} (h : Ints w a xs) (hb : Blk w k cs t) (hs : cs.size = 3) (hl : xs.length = 0 ∨ xs.length = 8) (j : Nat) (v : Value) : Ints (w.setCell ⟨k, j, none⟩ v) a xs := by
  rcases h with h | ⟨b, off, rfl, hg, hc⟩
  · exact .inl h
  rcases hl with h0 | h8
  · exact .inl (List.eq_nil_of_length_eq_zero h0)
  have hne : b ≠ k := by
    rintro rfl
    have := hc 3 (by omega)
    rw [hb.cell (off + 3), Array.getElem?_eq_none (by omega)] at this
    cases this
  refine .inr ⟨b, off, rfl, by simpa [World.setCell] using hg, fun i hi => ?_⟩
  rw [World.cell?_setCell_other _ _ _ _ (by intro h; exact hne (congrArg Addr.block h).symm)]
  exact hc i hi
theorem Ints.off_three {w : World} {a : Option Addr} {xs : List Int} {k : Nat} {u0 u1 u2 : Value} {t : TypeId} (h : Ints w a xs) (hb : Blk w k #[u0, u1, u2] t) (hl : xs.length = 0 ∨ xs.length = 8) (v0 v1 v2 : Value) : Ints (((w.setCell ⟨k, 0, none⟩ v0).setCell ⟨k, 1, none⟩ v1).setCell ⟨k, 2, none⟩ v2) a xs :=
  ((h.off_blk hb rfl hl 0 v0).off_blk (hb.set 0 v0 (by simp)) rfl hl 1 v1).off_blk ((hb.set 0 v0 (by simp)).set 1 v1 (by simp)) rfl hl 2 v2

set_option maxHeartbeats 3200000 in
theorem drawEdges_val (a : Option Addr) (cap B : Nat) (zs : List Int) (w : World) (hc : CodeV w B a zs) (hB : B ≤ w.heap.size) :
    Calls Try.prog 7 #[.slice a zs.length cap] w fun e w' => (∃ a1 a2 c1 c2, e = .returned (edgV a1 (dX zs).length c1 a2 (dY zs).length c2 (dC zs)) ∧ Ints w' a1 (dX zs) ∧ Ints w' a2 (dY zs)) ∧ Below w.heap.size w w' := by
  have lx := edX_len zs (newF zs)
  have ly := edY_len zs (newF zs)
  have HD : Hid ((dX zs = if edgesB (edX zs (newF zs)) (edY zs (newF zs)) (edC zs (newF zs)) = true then edX zs (newF zs) else []) ∧ (dY zs = if edgesB (edX zs (newF zs)) (edY zs (newF zs)) (edC zs (newF zs)) = true then edY zs (newF zs) else []) ∧ (dC zs = if edgesB (edX zs (newF zs)) (edY zs (newF zs)) (edC zs (newF zs)) = true then edC zs (newF zs) else -1)) := ⟨rfl, rfl, rfl⟩
  have HN : Hid (∀ w', Below w.heap.size w w' → Calls Try.prog 21 #[.slice a zs.length cap] w' fun e w'' => e = .returned (.pointer (some ⟨w'.heap.size, 0, none⟩)) ∧ CurV w'' w'.heap.size a zs.length (newF zs) ∧ Below w'.heap.size w' w'') := fun w' hb => new_val a cap B zs w' (hc.below (hb.mono hB)) (Nat.le_trans hB hb.size)
  have HE : Hid (∀ g, B ≤ g → ∀ w', Below w.heap.size w w' → CurV w' g a zs.length (newF zs) → Calls Try.prog 20 #[.pointer (some ⟨g, 0, none⟩)] w' fun e w'' => (∃ a1 a2 c1 c2, e = .returned (edgV a1 (edX zs (newF zs)).length c1 a2 (edY zs (newF zs)).length c2 (edC zs (newF zs))) ∧ Ints w'' a1 (edX zs (newF zs)) ∧ Ints w'' a2 (edY zs (newF zs))) ∧ Kept w' w'' g) := fun g hg w' hb hcur => l13Edges_val g a zs B (newF zs) w' (hc.below (hb.mono hB)) hg hcur
  have HL : Hid (edgesB (edX zs (newF zs)) (edY zs (newF zs)) (edC zs (newF zs)) = true → ((edX zs (newF zs)).length = 0 ∨ (edX zs (newF zs)).length = 8) ∧ ((edY zs (newF zs)).length = 0 ∨ (edY zs (newF zs)).length = 8)) := fun h => ⟨(edgeB_iff.1 (edgesB_iff.1 h).1).1, (edgeB_iff.1 (edgesB_iff.1 h).2.1).1⟩
  have HK : Hid (∀ (a1 a2 : Option Addr) (c1 c2 : Nat) w', Ints w' a1 (edX zs (newF zs)) → Ints w' a2 (edY zs (newF zs)) → Calls Try.prog 22 #[edgV a1 (edX zs (newF zs)).length c1 a2 (edY zs (newF zs)).length c2 (edC zs (newF zs))] w' fun e w'' => e = .returned (.bool (edgesB (edX zs (newF zs)) (edY zs (newF zs)) (edC zs (newF zs)))) ∧ Below w'.heap.size w' w'') := fun a1 a2 c1 c2 w' h1 h2 => specEdgesOk a1 a2 c1 c2 _ _ _ w' h1 h2 (by unfold maxLen; omega) (by unfold maxLen; omega)
  generalize edX zs (newF zs) = FX at *
  generalize edY zs (newF zs) = FY at *
  generalize edC zs (newF zs) = FC at *
  generalize dX zs = RX at *
  generalize dY zs = RY at *
  generalize dC zs = RC at *
  generalize edgesB FX FY FC = E at *
  generalize newF zs = S at *
  generalize hzl : zs.length = len at *
  clear hc hzl
  go_enter Try.func7, Try.ntmps7
  go_wp2_with fail
  generalize hW : World.alloc w _ = V
  have bR : Blk V w.heap.size #[.slice none 0 0, .slice none 0 0, .int .i64 0] 26 := by rw [← hW]; exact Blk.new w _ _
  have b0 : Below w.heap.size w V := by rw [← hW]; exact (Below.refl _ _).alloc (Nat.le_refl _) _
  have hVw : w.heap.size < V.heap.size := bR.lt
  clear hW
  refine (HN.out V b0).mono ?_
  rintro e u1 ⟨rfl, cv, hb⟩
  have b1 := b0.trans (hb.mono b0.size)
  have r1 := bR.below hb bR.lt
  have hg := cv.lt
  clear hb b0 bR
  go_wp2_with fail
  refine (HE.out V.heap.size (by omega) u1 b1 cv).mono ?_
  rintro e u2 ⟨⟨a1, a2, c1, c2, rfl, i1, i2⟩, hk⟩
  have b2 : Below w.heap.size w u2 := b1.grown hk b1.size (fun k h => by cases h; omega)
  have r2 := r1.grew hk (by intro e; have := Option.some.inj e; omega)
  clear hk b1 r1 cv
  go_wp2_with fail
  have X5 : Blk (u2.alloc (.cells #[.slice a1 FX.length c1, .slice a2 FY.length c2, .int .i64 FC] 26)) u2.heap.size _ _ := Blk.new u2 _ _
  have r5 := r2.alloc (.cells #[.slice a1 FX.length c1, .slice a2 FY.length c2, .int .i64 FC] 26)
  have hb5 := (Below.refl u2.heap.size u2).alloc (Nat.le_refl _) (.cells #[.slice a1 FX.length c1, .slice a2 FY.length c2, .int .i64 FC] 26)
  have b5 := b2.alloc b2.size (.cells #[.slice a1 FX.length c1, .slice a2 FY.length c2, .int .i64 FC] 26)
  have i15 := i1.below hb5 (Nat.le_refl _)
  have i25 := i2.below hb5 (Nat.le_refl _)
  clear hb5 r2 b2 i1 i2
  generalize u2.alloc _ = u5 at *
  refine (HK.out a1 a2 c1 c2 u5 i15 i25).mono ?_
  rintro e u6 ⟨rfl, hb6⟩
  have b6 := b5.trans (hb6.mono b5.size)
  have X6 := X5.below hb6 X5.lt
  have r6 := r5.below hb6 r5.lt
  have i16 := i15.below hb6 (Nat.le_refl _)
  have i26 := i25.below hb6 (Nat.le_refl _)
  clear hb6 X5 r5 b5 i15 i25
  rcases E with _ | _
  · have HF : Hid (RX = [] ∧ RY = [] ∧ RC = -1) := HD.out
    clear HD X6 HK HN HE
    obtain ⟨⟨m0, m1, m2⟩, n0, n1, n2⟩ := r6.three
    have rF : Hid (Blk _ _ _ _) := ((r6.set 0 (.slice none 0 0) (by simp)).set 1 (.slice none 0 0) (by simp)).set 2 (.int .i64 (-1)) (by simp)
    have bF := ((b6.setCell (p := ⟨w.heap.size, 0, none⟩) (Nat.le_refl _) (.slice none 0 0)).setCell (p := ⟨w.heap.size, 1, none⟩) (Nat.le_refl _) (.slice none 0 0)).setCell (p := ⟨w.heap.size, 2, none⟩) (Nat.le_refl _) (.int .i64 (-1))
    have BF : Hid (Below _ _ _) := bF
    clear r6 b6 bF
    go_wp2
    (try simp only [Exit.inBlock, Exit.then])
    refine bodyPost_ret (results_cell_row rfl _ _ w.heap.size 26 _ (0, 0) _ rfl rF.out Try.underlying26 rfl (by kernel_rfl)) rfl ?_
    rw [HF.out.1, HF.out.2.1, HF.out.2.2]
    exact ⟨⟨none, none, 0, 0, rfl, ints_none _, ints_none _⟩, BF.out⟩
  · have HF : Hid (RX = FX ∧ RY = FY ∧ RC = FC) := HD.out
    have x6 := X6.three.1
    obtain ⟨x0, x1, x2⟩ := x6
    clear HD X6 HK HN HE
    obtain ⟨⟨m0, m1, m2⟩, n0, n1, n2⟩ := r6.three
    have rF : Hid (Blk _ _ _ _) := ((r6.set 0 (.slice a1 FX.length c1) (by simp)).set 1 (.slice a2 FY.length c2) (by simp)).set 2 (.int .i64 FC) (by simp)
    have bF := ((b6.setCell (p := ⟨w.heap.size, 0, none⟩) (Nat.le_refl _) (.slice a1 FX.length c1)).setCell (p := ⟨w.heap.size, 1, none⟩) (Nat.le_refl _) (.slice a2 FY.length c2)).setCell (p := ⟨w.heap.size, 2, none⟩) (Nat.le_refl _) (.int .i64 FC)
    have BF : Hid (Below _ _ _) := bF
    have I1 : Hid (Ints _ _ _) := i16.off_three r6 (HL.out rfl).1 (.slice a1 FX.length c1) (.slice a2 FY.length c2) (.int .i64 FC)
    have I2 : Hid (Ints _ _ _) := i26.off_three r6 (HL.out rfl).2 (.slice a1 FX.length c1) (.slice a2 FY.length c2) (.int .i64 FC)
    clear r6 b6 bF
    go_wp2
    (try simp only [Exit.inBlock, Exit.then])
    refine bodyPost_ret (results_cell_row rfl _ _ w.heap.size 26 _ (0, 0) _ rfl rF.out Try.underlying26 rfl (by kernel_rfl)) rfl ?_
    rw [HF.out.1, HF.out.2.1, HF.out.2.2]
    exact ⟨⟨a1, a2, c1, c2, rfl, I1.out, I2.out⟩, BF.out⟩

end Go.Proofs.Ytkakiollhhmmaaa

namespace Go.Proofs.Ytkakiollhhmmaaa
open Go.RowKit
set_option linter.unusedVariables false

theorem codeV_of {w : World} {B : Nat} {a : Option Addr} {len : Nat} (h : CodeRow w B a len) : ∃ zs : List Int, zs.length = len ∧ CodeV w B a zs := by
  obtain ⟨h1, h2⟩ := h
  rcases h2 with h0 | ⟨b, off, rfl, hb, hc⟩
  · refine ⟨[], by rw [h0]; rfl, by simp, fun j => by simp, .inl rfl⟩
  · have hx : ∀ j : Nat, ∃ z : Int, 0 ≤ z ∧ z ≤ 255 ∧ (j < len → w.cell? ⟨b, off + j, none⟩ = some (.int .u8 z)) := fun j => by
      by_cases hj : j < len
      · obtain ⟨z, z0, z1, z2⟩ := hc j hj
        exact ⟨z, z0, z1, fun _ => z2⟩
      · exact ⟨0, by omega, by omega, fun h => absurd h hj⟩
    have hl : ((List.range len).map (fun j => Classical.choose (hx j))).length = len := by simp
    have hg : ∀ j, j < len → ((List.range len).map (fun j => Classical.choose (hx j))).getD j 0 = Classical.choose (hx j) := fun j hj => by
      rw [List.getD_eq_getElem?_getD, List.getElem?_eq_getElem (by rw [hl]; exact hj)]; simp
    refine ⟨(List.range len).map (fun j => Classical.choose (hx j)), hl, by rw [hl]; exact h1, fun j => ?_, .inr ⟨b, off, rfl, hb, fun j hj => ?_⟩⟩
    · by_cases hj : j < len
      · rw [hg j hj]; exact ⟨(Classical.choose_spec (hx j)).1, (Classical.choose_spec (hx j)).2.1⟩
      · rw [List.getD_eq_getElem?_getD, List.getElem?_eq_none (by rw [hl]; omega)]; simp
    · rw [hl] at hj
      rw [hg j hj]; exact (Classical.choose_spec (hx j)).2.2 hj
end Go.Proofs.Ytkakiollhhmmaaa

namespace Go.Proofs.Ytkakiollhhmmaaa
open Go.RowKit
set_option linter.unusedVariables false

/-- What the law asks of the best guess. -/
structure BestIs (C : Nat → Int) (b : Nat) (L : Int) : Prop where
  lt : b < 4
  at' : L = C b
  le : ∀ i, i < 4 → L ≤ C i
  first : ∀ i, i < b → L < C i
  pos : 1 ≤ L
theorem bestIs {ws xs ys : List Int} {c : Int} (h : edgesB xs ys c = true) (hw : wantB ws = true) : BestIs (costF ws xs ys c) (bestF (costF ws xs ys c) 4).1 (bestF (costF ws xs ys c) 4).2 := by
  have hp : ∀ i, i < 4 → 1 ≤ costF ws xs ys c i := fun i hi => (costF_in h (wantB_gap hw).2 hi).1
  obtain ⟨h1, h2, h3, h4⟩ := bestF_least hp 4 (by omega) (by omega)
  exact ⟨h1, h2, fun i hi => by rw [h2]; exact h3 i hi, fun i hi => by rw [h2]; exact h4 i hi, by rw [h2]; exact hp _ h1⟩
/-- The numbers of a known row, to be appended to another. -/
theorem news_of_known {w : World} {b off : Nat} {xs : List Int} (h : ∀ i, i < xs.length → w.cell? ⟨b, off + i, none⟩ = some (.int .i64 (xs.getD i 0))) : ∀ j u, (xs.map (Value.int .i64))[j]? = some u → w.cell? ((⟨b, off, none⟩ : Addr).add j) = some u := fun j u hu => by
  have hadd : (⟨b, off, none⟩ : Addr).add j = ⟨b, off + j, none⟩ := by unfold Addr.add; split <;> simp_all
  obtain ⟨hj, hv⟩ := List.getElem?_eq_some_iff.1 hu
  rw [List.length_map] at hj
  rw [hadd, h j hj, ← hv, List.getD_eq_getElem?_getD, List.getElem?_eq_getElem hj]
  simp

theorem Ints.grown_off {w w' : World} {a : Option Addr} {xs : List Int} {k : Nat} {t : TypeId} (h : Ints w a xs) (hb : Blk w k #[] t) (hg : w.grownBy w' (some k)) : Ints w' a xs := by
  rcases h with h | ⟨b, off, rfl, hlt, hc⟩
  · exact .inl h
  by_cases h0 : xs = []
  · exact .inl h0
  have hpos : 0 < xs.length := List.length_pos_iff.2 h0
  have hne : b ≠ k := by
    rintro rfl
    have := hc 0 hpos
    rw [hb.cell (off + 0)] at this
    cases this
  exact .inr ⟨b, off, rfl, Nat.lt_of_lt_of_le hlt hg.size, fun i hi => by
    rw [show w'.cell? ⟨b, off + i, none⟩ = w.cell? ⟨b, off + i, none⟩ by simp only [World.cell?, hg.block b hlt (fun e => hne (Option.some.inj e))]]
    exact hc i hi⟩

set_option maxHeartbeats 3200000 in
theorem fnBestGuess_walk (a : Option Addr) (len cap : Nat) (w : World) (hc : CodeIn w a len cap) :
    Calls Try.prog 3 #[.slice a len cap] w fun e w' => e = .returned (.bool true) ∧ Below w.heap.size w w' := by
  obtain ⟨i0, hi0, hz0, hz1, hz2⟩ := info_parts infoI
  obtain ⟨hlen, hnil, hrow⟩ := hc
  obtain ⟨zs, hzl, hcv⟩ := codeV_of hrow
  have CE : Hid (∀ w', Below w.heap.size w w' → Calls Try.prog 7 #[.slice a len cap] w' fun e w'' => (∃ a1 a2 c1 c2, e = .returned (edgV a1 (dX zs).length c1 a2 (dY zs).length c2 (dC zs)) ∧ Ints w'' a1 (dX zs) ∧ Ints w'' a2 (dY zs)) ∧ Below w'.heap.size w' w'') := fun w' hb => by rw [← hzl]; exact drawEdges_val a cap w.heap.size zs w' (hcv.below hb) hb.size
  have CW : Hid (∀ w', Below w.heap.size w w' → Calls Try.prog 8 #[.slice a len cap] w' fun e w'' => (∃ p q, e = .returned (.slice p 64 q) ∧ Ints w'' p (dW zs)) ∧ Below w'.heap.size w' w'') := fun w' hb => by rw [← hzl]; exact drawWant_val a cap w.heap.size zs w' (hcv.below hb) hb.size
  have HO := d_ok zs
  have HW := dW_want zs
  have hwl := dW_len zs
  generalize dX zs = xs at *
  generalize dY zs = ys at *
  generalize dC zs = c at *
  generalize dW zs = ws at *
  have hbm : bestM ws xs ys c = (((bestF (costF ws xs ys c) 4).1 : Int), (bestF (costF ws xs ys c) 4).2) := by unfold bestM; rw [HO, HW]; rfl
  have HB : Hid (BestIs (costF ws xs ys c) (bestF (costF ws xs ys c) 4).1 (bestF (costF ws xs ys c) 4).2) := bestIs HO HW
  have CI : Hid (∀ (a0 a1 a2 : Option Addr) (c0 c1 c2 : Nat) (w' : World), Ints w' a0 ws → Ints w' a1 xs → Ints w' a2 ys → Calls Try.prog 9 #[.slice a0 64 c0, edgV a1 xs.length c1 a2 ys.length c2 c] w' fun e w'' => e = .returned (.tuple #[.int .i64 ((bestF (costF ws xs ys c) 4).1 : Int), .int .i64 (bestF (costF ws xs ys c) 4).2]) ∧ Below w'.heap.size w' w'') := fun a0 a1 a2 c0 c1 c2 w' h0 h1 h2 => by
    obtain ⟨l1, l2⟩ := edges_len HO
    have := implBestGuess a0 a1 a2 c0 c1 c2 ws xs ys c w' h0 h1 h2 (by unfold maxLen; omega) (by unfold maxLen; omega) (by unfold maxLen; omega)
    rwa [hwl, hbm] at this
  have CS : Hid (∀ (a0 a1 a2 : Option Addr) (c0 c1 c2 : Nat) (w' : World), Ints w' a0 ws → Ints w' a1 xs → Ints w' a2 ys → Calls Try.prog 10 #[.slice a0 64 c0, edgV a1 xs.length c1 a2 ys.length c2 c] w' fun e w'' => e = .returned (.tuple #[.int .i64 ((bestF (costF ws xs ys c) 4).1 : Int), .int .i64 (bestF (costF ws xs ys c) 4).2]) ∧ Below w'.heap.size w' w'') := fun a0 a1 a2 c0 c1 c2 w' h0 h1 h2 => by
    obtain ⟨l1, l2⟩ := edges_len HO
    have := specBestGuess a0 a1 a2 c0 c1 c2 ws xs ys c w' h0 h1 h2 (by unfold maxLen; omega) (by unfold maxLen; omega) (by unfold maxLen; omega)
    rwa [hwl, hbm] at this
  have CG : Hid (∀ m : Nat, m < 4 → ∀ (a1 a2 : Option Addr) (c1 c2 : Nat) (w' : World), Ints w' a1 xs → Ints w' a2 ys → Calls Try.prog 12 #[.int .i64 (m : Int), edgV a1 xs.length c1 a2 ys.length c2 c] w' fun e w'' => (∃ p q, e = .returned (.slice p 64 q) ∧ Ints w'' p (gueL (m : Int) xs ys c)) ∧ Below w'.heap.size w' w'') := fun m hm a1 a2 c1 c2 w' h1 h2 => guess_call HO hm a1 a2 c1 c2 _ _ rfl rfl w' h1 h2
  have CP : Hid (∀ m : Nat, m < 4 → ∀ (p1 p2 : Option Addr) (q1 q2 : Nat) (w' : World), Ints w' p1 ws → Ints w' p2 (gueL (m : Int) xs ys c) → Calls Try.prog 11 #[.slice p1 64 q1, .slice p2 64 q2] w' fun e w'' => e = .returned (.int .i64 (gapI ws (gueL (m : Int) xs ys c))) ∧ Below w'.heap.size w' w'') := fun m hm p1 p2 q1 q2 w' h1 h2 => by
    have := implGapOf p1 p2 q1 q2 ws (gueL (m : Int) xs ys c) w' h1 h2 (by rw [hwl]; decide) (by rw [gue_len HO hm]; decide)
    rwa [hwl, gue_len HO hm] at this
  have CU : Hid (∀ m : Nat, m < 4 → ∀ w', Calls Try.prog 13 #[.int .i64 (m : Int)] w' fun e w'' => e = .returned (.int .i64 (ueM m)) ∧ w'' = w') := fun m hm w' => ue_impl m hm w'
  have CC : Hid (∀ m : Nat, m < 4 → costF ws xs ys c m = gapI ws (gueL (m : Int) xs ys c) + ueM m ∧ (0 ≤ gapI ws (gueL (m : Int) xs ys c) ∧ gapI ws (gueL (m : Int) xs ys c) ≤ 128000) ∧ 0 ≤ ueM m ∧ ueM m ≤ 5) := fun m hm => ⟨rfl, gapI_in (wantB_gap HW).2 (gapB_gue HO (by omega) (by omega)), by unfold ueM; split <;> (try split) <;> omega, by unfold ueM; split <;> (try split) <;> omega⟩
  have HWL : Hid (ws.length = 64) := hwl
  generalize (bestF (costF ws xs ys c) 4).2 = L at *
  generalize (bestF (costF ws xs ys c) 4).1 = bm at *
  generalize costF ws xs ys c = C at *
  clear HO HW hcv hrow hzl hwl hbm
  go_enter Try.func3, Try.ntmps3
  go_wp2_with fail
  refine (big_any a len cap w hlen).mono ?_
  rintro e w0 ⟨rfl, hw⟩
  subst w0
  go_wp2_with fail
  refine (CE.out w (Below.refl _ _)).mono ?_
  rintro e w1 ⟨⟨a1, a2, c1, c2, rfl, i1, i2⟩, b1⟩
  go_wp2_with fail
  have X2 : Blk (w1.alloc (.cells #[.slice a1 xs.length c1, .slice a2 ys.length c2, .int .i64 c] 26)) w1.heap.size _ _ := Blk.new w1 _ _
  have hb2 := (Below.refl w1.heap.size w1).alloc (Nat.le_refl _) (.cells #[.slice a1 xs.length c1, .slice a2 ys.length c2, .int .i64 c] 26)
  have b2 := b1.alloc b1.size (.cells #[.slice a1 xs.length c1, .slice a2 ys.length c2, .int .i64 c] 26)
  have i12 := i1.below hb2 (Nat.le_refl _)
  have i22 := i2.below hb2 (Nat.le_refl _)
  have hs2 := hb2.size
  have hge := X2.lt
  clear hb2 i1 i2 b1
  generalize w1.heap.size = E at *
  generalize w1.alloc _ = w2 at *
  refine (CW.out w2 b2).mono ?_
  rintro e w3 ⟨⟨wp, wq, rfl, iw⟩, hb⟩
  have b3 := b2.trans (hb.mono b2.size)
  have X3 := X2.below hb X2.lt
  have i13 := i12.below hb (Nat.le_refl _)
  have i23 := i22.below hb (Nat.le_refl _)
  have hE3 := X3.lt
  clear hb X2 i12 i22 b2
  rcases iw with h0 | ⟨wb, woff, rfl, hwb, hwc⟩
  · have := HWL.out
    rw [h0] at this
    cases this
  -- what lies in memory from here on
  have HK : Hid (∀ w', Below w3.heap.size w3 w' → (w'.cell? ⟨E, 0, none⟩ = some (.slice a1 xs.length c1) ∧ w'.cell? ⟨E, 1, none⟩ = some (.slice a2 ys.length c2) ∧ w'.cell? ⟨E, 2, none⟩ = some (.int .i64 c)) ∧ (Ints w' a1 xs ∧ Ints w' a2 ys) ∧ (∀ i, i < ws.length → w'.cell? ⟨wb, woff + i, none⟩ = some (.int .i64 (ws.getD i 0))) ∧ Below w.heap.size w w') := fun w' hb =>
    ⟨(X3.below hb X3.lt).three.1, ⟨i13.below hb (Nat.le_refl _), i23.below hb (Nat.le_refl _)⟩, fun i hi => (hb.cell (p := ⟨wb, woff + i, none⟩) hwb).trans (hwc i hi), b3.trans (hb.mono b3.size)⟩
  clear X3 i13 i23 b3 hwc
  obtain ⟨⟨x0, x1, x2⟩, _, _, _⟩ := HK.out w3 (Below.refl _ _)
  go_wp2_with fail
  have lit3 : (w3.drew.alloc (.cells #[] 3)).ownsRow w3.heap.size 3 1 (.slice (some ⟨w3.heap.size, 0, none⟩) 0 0) 0 (([] : List Int).map (Value.int .i64)) := World.ownsRow_lit w3.drew #[] 0 (Nat.le_refl _) (by unfold maxLen; omega) rfl
  have hbL : Below w3.heap.size w3 (w3.drew.alloc (.cells #[] 3)) := (Below.refl w3.heap.size w3).drew.alloc (Nat.le_refl _) _
  obtain ⟨⟨z0, z1, z2⟩, _, hwcL, _⟩ := HK.out _ hbL
  have HNW : Hid (∀ j u, (ws.map (Value.int .i64))[j]? = some u → (w3.drew.alloc (.cells #[] 3)).cell? ((⟨wb, woff, none⟩ : Addr).add j) = some u) := news_of_known hwcL
  have HLM : Hid ((ws.map (Value.int .i64)).length = 64 * 1) := by show _ = _; rw [List.length_map, HWL.out]
  have HON : Hid (∀ u ∈ ws.map (Value.int .i64), u.oneCell' = true) := fun u hu => by
    obtain ⟨x, _, rfl⟩ := List.mem_map.1 hu
    rfl
  clear hwcL
  go_cut [5, 6] from 17 to 24 (fun p q wc => p = .int .i64 (bm : Int) ∧ q = .int .i64 L ∧ Below w3.heap.size w3 wc)
  case first =>
    go_region_law (first
      | (refine step_append_lies _ (by rfl) _ _ _ (by rfl) w3.heap.size 3 i0 (.int .i64 0) 1 8 Try.underlying24 hi0 hz0 hz1 hz2 rfl (by omega) (.slice (some ⟨w3.heap.size, 0, none⟩) 0 0) 0 _ (by rfl) lit3 ⟨wb, woff, none⟩ 64 wq (ws.map (Value.int .i64)) (by rfl) HLM.out HNW.out HON.out (by omega) (by unfold maxLen; omega) (by omega) (by simp) (w3.heap.size + 1) (by simp) ?_; intro gg cp w5 hown5 hgrow hat hlt5; have hb5 : Below w3.heap.size w3 w5 := hbL.grown hgrow (by simp) (fun k hk => (lit3.lt k hk).1); have J5 : Ints w5 (some ⟨gg, 0, none⟩) ws := owned_at (xs := ws) (by rw [HWL.out]; exact hown5); obtain ⟨⟨y0, y1, y2⟩, ⟨j1, j2⟩, _, _⟩ := HK.out w5 hb5)
      | (go_simp; go_at_call 9; refine (CI.out _ _ _ _ _ _ _ J5 j1 j2).mono ?_; rintro e w6 ⟨rfl, hr⟩; have hb6 := hb5.trans (hr.mono hb5.size)))
    all_goals
      go_wp2_with fail
      go_meet
      exact ⟨rfl, rfl, hb6⟩
  case rest =>
    obtain ⟨rfl, rfl, hbc⟩ := hcut
    clear lit3 hbL z0 z1 z2 HNW HLM x0 x1 x2
    obtain ⟨_, _, _, hbw⟩ := HK.out wc hbc
    go_wp2_with fail
    refine (CW.out wc hbw).mono ?_
    rintro e w4 ⟨⟨vp, vq, rfl, iv⟩, hb⟩
    have hb4 := hbc.trans (hb.mono hbc.size)
    obtain ⟨_, _, _, hbw4⟩ := HK.out w4 hb4
    clear hb
    go_wp2_with fail
    refine (CE.out w4 hbw4).mono ?_
    rintro e w5 ⟨⟨d1, d2, f1, f2, rfl, k1, k2⟩, hb⟩
    have hb5 := hb4.trans (hb.mono hb4.size)
    have iv5 := iv.below hb (Nat.le_refl _)
    clear hb hbw4
    go_wp2_with fail
    refine (CS.out _ _ _ _ _ _ w5 iv5 k1 k2).mono ?_
    rintro e w6 ⟨rfl, hb⟩
    have hb6 := hb5.trans (hb.mono hb5.size)
    obtain ⟨B1, B2x, B3, B4, B5⟩ := HB.out
    have B2 : Hid (L = C bm) := B2x
    clear B2x
    have bm0 : (0 : Int) ≤ (bm : Int) := by omega
    have bm3 : (bm : Int) ≤ 3 := by omega
    clear hb hb5 hb4 iv iv5 k1 k2 hbw hbc
    go_wp2
    go_loopw [9] (fun i wx => ∃ m : Nat, m ≤ 4 ∧ i = .int .i64 (m : Int) ∧ Below w3.heap.size w3 wx) (fun i _ => 4 - (intOf i).toNat)
    case atStart => exact ⟨0, by omega, rfl, hb6⟩
    case round =>
      clear hb6
      obtain ⟨m, hm, rfl, hbr⟩ := hrel
      obtain ⟨⟨x0, x1, x2⟩, _, _, hbw⟩ := HK.out wr hbr
      have hsr := hbr.size
      by_cases hlm : m < 4
      · have l0 : (0 : Int) ≤ (m : Int) := by omega
        have l1 : (m : Int) < 4 := by omega
        have CGm : Hid (∀ (a1 a2 : Option Addr) (c1 c2 : Nat) (w' : World), Ints w' a1 xs → Ints w' a2 ys → Calls Try.prog 12 #[.int .i64 (m : Int), edgV a1 xs.length c1 a2 ys.length c2 c] w' fun e w'' => (∃ p q, e = .returned (.slice p 64 q) ∧ Ints w'' p (gueL (m : Int) xs ys c)) ∧ Below w'.heap.size w' w'') := fun p q r s w' => CG.out m hlm p q r s w'
        have CPm : Hid (∀ (p1 p2 : Option Addr) (q1 q2 : Nat) (w' : World), Ints w' p1 ws → Ints w' p2 (gueL (m : Int) xs ys c) → Calls Try.prog 11 #[.slice p1 64 q1, .slice p2 64 q2] w' fun e w'' => e = .returned (.int .i64 (gapI ws (gueL (m : Int) xs ys c))) ∧ Below w'.heap.size w' w'') := fun p q r s w' => CP.out m hlm p q r s w'
        have CUm : Hid (∀ w', Calls Try.prog 13 #[.int .i64 (m : Int)] w' fun e w'' => e = .returned (.int .i64 (ueM m)) ∧ w'' = w') := fun w' => CU.out m hlm w'
        obtain ⟨hcm, ⟨g0, g1⟩, u0, u1⟩ := CC.out m hlm
        have hle := B3 m hlm
        have hlt := B4 m
        have hCm : Hid (C m = gapI ws (gueL (m : Int) xs ys c) + ueM m) := hcm
        have hbe : m = bm → L = C m := fun h => by rw [h]; exact B2.out
        rw [hcm] at hle hlt hbe
        generalize gapI ws (gueL (m : Int) xs ys c) = gp at *
        generalize gueL (m : Int) xs ys c = D at *
        generalize ueM m = ue at *
        have hwr : IntKind.i64.wrap (gp + ue) = gp + ue := IntWalk.i64_in _ ⟨by omega, by omega⟩
        have litr : (wr.drew.alloc (.cells #[] 3)).ownsRow wr.heap.size 3 1 (.slice (some ⟨wr.heap.size, 0, none⟩) 0 0) 0 (([] : List Int).map (Value.int .i64)) := World.ownsRow_lit wr.drew #[] 0 (Nat.le_refl _) (by unfold maxLen; omega) rfl
        have blkr : Blk (wr.drew.alloc (.cells #[] 3)) wr.heap.size #[] 3 := Blk.new wr.drew _ _
        have hbD : Below wr.heap.size wr wr.drew := (Below.refl wr.heap.size wr).drew
        have hbA : Below wr.heap.size wr (wr.drew.alloc (.cells #[] 3)) := hbD.alloc (Nat.le_refl _) _
        obtain ⟨_, ⟨jd1, jd2⟩, _, _⟩ := HK.out _ (hbr.trans (hbD.mono hsr))
        obtain ⟨⟨z0, z1, z2⟩, ⟨jz1, jz2⟩, hwcA, _⟩ := HK.out _ (hbr.trans (hbA.mono hsr))
        have zz0 : (wr.alloc (.cells #[] 3)).cell? ⟨E, 0, none⟩ = some (.slice a1 xs.length c1) := z0
        have zz1 : (wr.alloc (.cells #[] 3)).cell? ⟨E, 1, none⟩ = some (.slice a2 ys.length c2) := z1
        have zz2 : (wr.alloc (.cells #[] 3)).cell? ⟨E, 2, none⟩ = some (.int .i64 c) := z2
        have NWA : Hid (∀ j u, (ws.map (Value.int .i64))[j]? = some u → (wr.drew.alloc (.cells #[] 3)).cell? ((⟨wb, woff, none⟩ : Addr).add j) = some u) := news_of_known hwcA
        have HLM : Hid ((ws.map (Value.int .i64)).length = 64 * 1) := by show _ = _; rw [List.length_map, HWL.out]
        clear hwcA
        go_wp2_with fail
        go_cut [10] from 57 to 66 (fun p wc => p = .int .i64 (gp + ue) ∧ Below wr.heap.size wr wc)
        case first =>
          go_region_law (first
            | (refine step_append_lies _ (by rfl) _ _ _ (by rfl) wr.heap.size 3 i0 (.int .i64 0) 1 8 Try.underlying24 hi0 hz0 hz1 hz2 rfl (by omega) (.slice (some ⟨wr.heap.size, 0, none⟩) 0 0) 0 _ (by rfl) litr ⟨wb, woff, none⟩ 64 wq (ws.map (Value.int .i64)) (by rfl) HLM.out NWA.out HON.out (by omega) (by unfold maxLen; omega) (by omega) (by simp) (wr.heap.size + 1) (by simp) ?_; intro gg cp w5 hown5 hgrow hat hlt5; have hb5 : Below wr.heap.size wr w5 := hbA.grown hgrow (by simp) (fun k hk => (litr.lt k hk).1); have J5 : Ints w5 (some ⟨gg, 0, none⟩) ws := owned_at (xs := ws) (by rw [HWL.out]; exact hown5); obtain ⟨⟨y0, y1, y2⟩, ⟨jg1, jg2⟩, _, _⟩ := HK.out w5 (hbr.trans (hb5.mono hsr)))
            | (refine step_append_lies _ (by rfl) _ _ _ (by rfl) wr.heap.size 3 i0 (.int .i64 0) 1 8 Try.underlying24 hi0 hz0 hz1 hz2 rfl (by omega) (.slice (some ⟨wr.heap.size, 0, none⟩) 0 0) 0 _ (by rfl) (owned_below litr hrZ) ⟨wb, woff, none⟩ 64 wq (ws.map (Value.int .i64)) (by rfl) HLM.out NW7.out HON.out (by omega) (by unfold maxLen; omega) (by omega) hb7.size w7.heap.size rfl ?_; intro gg cp w5 hown5 hgrow hat hlt5; have hbK : Below wr.heap.size wr w5 := hb7.grown hgrow hb7.size (fun k hk => (litr.lt k hk).1); have K5 : Ints w5 (some ⟨gg, 0, none⟩) ws := owned_at (xs := ws) (by rw [HWL.out]; exact hown5); have K7 := J7.grown_off (blkr.below hrZ blkr.lt) hgrow)
            | (refine step_append_lies _ (by rfl) _ _ _ (by rfl) w7.heap.size 3 i0 (.int .i64 0) 1 8 Try.underlying24 hi0 hz0 hz1 hz2 rfl (by omega) (.slice (some ⟨w7.heap.size, 0, none⟩) 0 0) 0 _ (by rfl) lit7 ⟨wb, woff, none⟩ 64 wq (ws.map (Value.int .i64)) (by rfl) HLM.out NW7A.out HON.out (by omega) (by unfold maxLen; omega) (by omega) (by simp) (w7.heap.size + 1) (by simp) ?_; intro gg cp w5 hown5 hgrow hat hlt5; have hbK : Below wr.heap.size wr w5 := (hb7.alloc hb7.size (.cells #[] 3)).grown hgrow (Nat.le_trans hb7.size (by simp)) (fun k hk => Nat.le_trans hb7.size (lit7.lt k hk).1); have K5 : Ints w5 (some ⟨gg, 0, none⟩) ws := owned_at (xs := ws) (by rw [HWL.out]; exact hown5); have K7 := (J7.below ((Below.refl w7.heap.size w7).alloc (Nat.le_refl _) (.cells #[] 3)) (Nat.le_refl _)).grown_off (Blk.new w7 _ _) hgrow)
            | (go_simp; go_at_call 12; refine (CGm.out _ _ _ _ _ jg1 jg2).mono ?_; rintro e w7 ⟨⟨dp, dq, rfl, K7⟩, hr⟩; have hbK : Below wr.heap.size wr w7 := hb5.trans (hr.mono hb5.size); have K5 := J5.below hr (Nat.le_refl _))
            | (go_simp; go_at_call 12; refine (CGm.out _ _ _ _ _ jz1 jz2).mono ?_; rintro e w7 ⟨⟨dp, dq, rfl, J7⟩, hrZ⟩; have hb7 : Below wr.heap.size wr w7 := hbA.trans (hrZ.mono hbA.size); have NW7 : Hid (∀ j u, (ws.map (Value.int .i64))[j]? = some u → w7.cell? ((⟨wb, woff, none⟩ : Addr).add j) = some u) := news_of_known (HK.out _ (hbr.trans (hb7.mono hsr))).2.2.1)
            | (go_simp; go_at_call 12; refine (CGm.out _ _ _ _ _ jd1 jd2).mono ?_; rintro e w7 ⟨⟨dp, dq, rfl, J7⟩, hrD⟩; have hb7 : Below wr.heap.size wr w7 := hbD.trans hrD; have lit7 : (w7.alloc (.cells #[] 3)).ownsRow w7.heap.size 3 1 (.slice (some ⟨w7.heap.size, 0, none⟩) 0 0) 0 (([] : List Int).map (Value.int .i64)) := World.ownsRow_lit w7 #[] 0 (Nat.le_refl _) (by unfold maxLen; omega) rfl; have NW7A : Hid (∀ j u, (ws.map (Value.int .i64))[j]? = some u → (w7.alloc (.cells #[] 3)).cell? ((⟨wb, woff, none⟩ : Addr).add j) = some u) := news_of_known (HK.out _ (hbr.trans ((hb7.alloc hb7.size (.cells #[] 3)).mono hsr))).2.2.1)
            | (go_simp; go_at_call 11; refine (CPm.out _ _ _ _ _ K5 K7).mono ?_; rintro e w8 ⟨rfl, hr8⟩; have hb8 := hbK.trans (hr8.mono hbK.size))
            | (go_simp; go_at_call 13; refine (CUm.out _).mono ?_; rintro e w9 ⟨rfl, hw⟩; subst w9))
          all_goals
            go_wp2_with fail
            go_meet
            exact ⟨by first | rfl | rw [hwr] | simp [hwr], hb8⟩
        case rest =>
          obtain ⟨rfl, hbk⟩ := hcut
          have hbn := hbr.trans (hbk.mono hsr)
          clear litr blkr hbD hbA jd1 jd2 z0 z1 z2 zz0 zz1 zz2 jz1 jz2 NWA HLM x0 x1 x2 CGm CPm CUm hCm B3 B4
          have q1 : ¬ gp + ue < L := by omega
          rcases Nat.lt_trichotomy m bm with h | h | h
          · have q2 := hlt h
            have q3 : ¬ gp + ue = L := by omega
            have q4 : ¬ (m : Int) = (bm : Int) := by omega
            have q5 : ((m : Int) == (bm : Int)) = false := by rw [beq_eq_false_iff_ne]; exact q4
            have q6 : (gp + ue == L) = false := by rw [beq_eq_false_iff_ne]; exact q3
            go_wp2
            exact ⟨⟨m + 1, by omega, by go_num, hbn⟩, by simp [intOf]; omega⟩
          · have q2 := hbe h
            have q4 : (m : Int) = (bm : Int) := by omega
            go_wp2
            exact ⟨⟨m + 1, by omega, by go_num, hbn⟩, by simp [intOf]; omega⟩
          · have q4 : ¬ (m : Int) = (bm : Int) := by omega
            have q5 : ((m : Int) == (bm : Int)) = false := by rw [beq_eq_false_iff_ne]; exact q4
            have q7 : ¬ (m : Int) < (bm : Int) := by omega
            by_cases q3 : gp + ue = L
            · go_wp2
              exact ⟨⟨m + 1, by omega, by go_num, hbn⟩, by simp [intOf]; omega⟩
            · have q6 : (gp + ue == L) = false := by rw [beq_eq_false_iff_ne]; exact q3
              go_wp2
              exact ⟨⟨m + 1, by omega, by go_num, hbn⟩, by simp [intOf]; omega⟩
      · obtain rfl : m = 4 := by omega
        go_wp2
        go_ret
        exact ⟨rfl, hbw⟩
end Go.Proofs.Ytkakiollhhmmaaa
