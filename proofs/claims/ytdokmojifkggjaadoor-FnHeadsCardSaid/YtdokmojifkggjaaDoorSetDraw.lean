/-
  The draws of sets with their values: the walks of spec.l05Right, spec.l05ParRight, spec.TilesOf, spec.l07Head and spec.DrawSets.
-/
import Derived.Test.YtdokmojifkggjaaDoorSidesDraw
import Derived.Test.YtdokmojifkggjaaDoorMFaultKit
import Derived.BigRegion
namespace Go.Proofs.YtdokmojifkggjaaDoor
open Go.RowKit
set_option linter.unusedVariables false
set_option maxRecDepth 20000

theorem CurTo.trans {w w1 w2 : World} {g : Nat} {a : Option Addr} {len : Nat} {S S' : Nat × Int} (h : CurTo w w1 g a len S) (k : CurTo w1 w2 g a len S') : CurTo w w2 g a len S' := ⟨k.1, h.2.trans k.2⟩
theorem CurTo.kept {w w1 w2 : World} {g : Nat} {a : Option Addr} {len : Nat} {S : Nat × Int} (h : CurTo w w1 g a len S) (k : Below w1.heap.size w1 w2) : CurTo w w2 g a len S := ⟨h.1.kept (grown_of_below k none) (by simp), h.2.trans (grown_of_below k _)⟩
/-- All between lo and the size of w is as it was. -/
def Fr (w : World) (lo : Nat) (w' : World) : Prop := w.heap.size ≤ w'.heap.size ∧ ∀ k, k < w.heap.size → lo < k → w'.heap[k]? = w.heap[k]?
theorem Fr.refl (w : World) (lo : Nat) : Fr w lo w := ⟨Nat.le_refl _, fun _ _ _ => rfl⟩
theorem Fr.grown {w w1 w2 : World} {lo g : Nat} (h : Fr w lo w1) (hg : w1.grownBy w2 (some g)) (hl : g ≤ lo ∨ w.heap.size ≤ g) : Fr w lo w2 :=
  ⟨Nat.le_trans h.1 hg.size, fun k hk hlo => (hg.block k (Nat.lt_of_lt_of_le hk h.1) (by intro e; cases e; omega)).trans (h.2 k hk hlo)⟩
theorem Fr.below {w w1 w2 : World} {lo : Nat} (h : Fr w lo w1) (hb : Below w1.heap.size w1 w2) : Fr w lo w2 :=
  ⟨Nat.le_trans h.1 hb.size, fun k hk hlo => (hb.block k (Nat.lt_of_lt_of_le hk h.1)).trans (h.2 k hk hlo)⟩
theorem Fr.set {w w1 : World} {lo g : Nat} (h : Fr w lo w1) (j : Nat) (v : Value) (hl : g ≤ lo ∨ w.heap.size ≤ g) : Fr w lo (w1.setCell ⟨g, j, none⟩ v) := h.grown (grown_set w1 g j v) hl
theorem Ints.far {w w' : World} {a : Option Addr} {xs : List Int} {lo : Nat} (h : Ints w a xs) (hf : Fr w lo w') (hq : ∀ p, a = some p → lo < p.block) : Ints w' a xs := by
  rcases h with h | ⟨b, off, rfl, hb, hc⟩
  · exact .inl h
  · exact .inr ⟨b, off, rfl, Nat.lt_of_lt_of_le hb hf.1, fun i hi => (World.cell?_of_block (w := w) (a := ⟨b, off + i, none⟩) (hf.2 b hb (hq _ rfl))).trans (hc i hi)⟩
/-- A drawn set: its numbers, and the state behind it. -/
def riB (zs : List Int) (S : Nat × Int) : Int := 3 + (belF zs 3 S).1
def riX (zs : List Int) (S : Nat × Int) : List Int := (sidesF zs 4 0 (belF zs 3 S).2).1
def riY (zs : List Int) (S : Nat × Int) : List Int := (sidesF zs 4 0 (sidesF zs 4 0 (belF zs 3 S).2).2).1
def riO (zs : List Int) (S : Nat × Int) : Bool := (belF zs 2 (sidesF zs 4 0 (sidesF zs 4 0 (belF zs 3 S).2).2).2).1 == 0
def riE (zs : List Int) (S : Nat × Int) : Nat × Int := (belF zs 2 (sidesF zs 4 0 (sidesF zs 4 0 (belF zs 3 S).2).2).2).2
def riL (zs : List Int) (S : Nat × Int) : Int := if (riO zs S && decide (sqI (riX zs S) (riY zs S) ≤ 16)) = true then 1 else 3
theorem ri_ok (zs : List Int) (S : Nat × Int) : seqB (riL zs S) (riB zs S) (riX zs S) (riY zs S) = true ∧ (riX zs S).length ≤ 3 ∧ (riY zs S).length ≤ 3 ∧ 3 ≤ riB zs S ∧ riB zs S ≤ 5 := by
  obtain ⟨x1, x2, x3, x4, x5⟩ := sides_good zs (belF zs 3 S).2
  obtain ⟨y1, y2, y3, y4, y5⟩ := sides_good zs (sidesF zs 4 0 (belF zs 3 S).2).2
  obtain ⟨b0, b1⟩ := belF_bd zs 3 S (by omega)
  have hb : 3 ≤ riB zs S ∧ riB zs S ≤ 5 := by unfold riB; omega
  have h1 : 1 ≤ sqI (riX zs S) (riY zs S) := by
    have : 1 * 1 ≤ sideI (riX zs S) * sideI (riY zs S) := Int.mul_le_mul x4 y4 (by omega) (by unfold riX; omega)
    unfold sqI; omega
  have h2 : sqI (riX zs S) (riY zs S) ≤ 36 := by
    have : sideI (riX zs S) * sideI (riY zs S) ≤ 6 * 6 := Int.mul_le_mul x5 y5 (by unfold riY; omega) (by omega)
    unfold sqI; omega
  refine ⟨?_, x1, y1, hb.1, hb.2⟩
  unfold seqB
  have h3 : sqI (riX zs S) (riY zs S) ≤ lvlI (riL zs S) := by
    unfold riL
    split
    · rename_i h; simp at h; simp [lvlI]; exact h.2
    · simp [lvlI]; omega
  simp [h1, h3]; omega

set_option maxHeartbeats 3200000 in
theorem right_val (g : Nat) (a : Option Addr) (zs : List Int) (B : Nat) (S : Nat × Int) (w : World) (hc : CodeV w B a zs) (hB : B ≤ g) (hcur : CurV w g a zs.length S) :
    Calls Tryd.prog 25 #[.pointer (some ⟨g, 0, none⟩)] w fun e w' => ∃ a1 c1 a2 c2, e = .returned (.agg #[.int .i64 (riL zs S), .int .i64 (riB zs S), .slice a1 (riX zs S).length c1, .slice a2 (riY zs S).length c2]) ∧ Ints w' a1 (riX zs S) ∧ Ints w' a2 (riY zs S) ∧ (∀ p, a1 = some p → w.heap.size < p.block) ∧ (∀ p, a2 = some p → w.heap.size < p.block) ∧ CurTo w w' g a zs.length (riE zs S) := by
  have hgw := hcur.lt
  obtain ⟨b0, b1⟩ := belF_bd zs 3 S (by omega)
  have HLn : Hid ((riX zs S).length ≤ 3 ∧ (riY zs S).length ≤ 3) := ⟨(ri_ok zs S).2.1, (ri_ok zs S).2.2.1⟩
  have CB : Hid (∀ w', CodeV w' B a zs → CurV w' g a zs.length S → Calls Tryd.prog 29 #[.pointer (some ⟨g, 0, none⟩), .int .i64 3] w' fun e w'' => e = .returned (.int .i64 (belF zs 3 S).1) ∧ CurTo w' w'' g a zs.length (belF zs 3 S).2) := fun w' h1 h2 => below_val g a zs B 3 S w' h1 hB h2 (by omega) (by omega)
  have CX : Hid (∀ w', CodeV w' B a zs → CurV w' g a zs.length (belF zs 3 S).2 → Calls Tryd.prog 55 #[.pointer (some ⟨g, 0, none⟩)] w' fun e w'' => ∃ a1 c1, e = .returned (.slice a1 (riX zs S).length c1) ∧ Ints w'' a1 (riX zs S) ∧ (∀ k, a1 = some k → w'.heap.size ≤ k.block) ∧ CurTo w' w'' g a zs.length (sidesF zs 4 0 (belF zs 3 S).2).2) := fun w' h1 h2 => sides_val g a zs B _ w' h1 hB h2
  have CY : Hid (∀ w', CodeV w' B a zs → CurV w' g a zs.length (sidesF zs 4 0 (belF zs 3 S).2).2 → Calls Tryd.prog 55 #[.pointer (some ⟨g, 0, none⟩)] w' fun e w'' => ∃ a1 c1, e = .returned (.slice a1 (riY zs S).length c1) ∧ Ints w'' a1 (riY zs S) ∧ (∀ k, a1 = some k → w'.heap.size ≤ k.block) ∧ CurTo w' w'' g a zs.length (sidesF zs 4 0 (sidesF zs 4 0 (belF zs 3 S).2).2).2) := fun w' h1 h2 => sides_val g a zs B _ w' h1 hB h2
  have CO : Hid (∀ w', CodeV w' B a zs → CurV w' g a zs.length (sidesF zs 4 0 (sidesF zs 4 0 (belF zs 3 S).2).2).2 → Calls Tryd.prog 56 #[.pointer (some ⟨g, 0, none⟩), .int .i64 2] w' fun e w'' => e = .returned (.bool (riO zs S)) ∧ CurTo w' w'' g a zs.length (riE zs S)) := fun w' h1 h2 => once_val g a zs B 2 _ w' h1 hB h2 (by omega) (by omega)
  have HV : Hid (riL zs S = if (riO zs S && decide (sqI (riX zs S) (riY zs S) ≤ 16)) = true then 1 else 3) := rfl
  have HBb : Hid (riB zs S = 3 + (belF zs 3 S).1) := rfl
  have HC : Hid (CodeV w B a zs) := hc
  clear hc
  generalize riL zs S = L at *
  generalize riO zs S = o at *
  generalize riE zs S = SE at *
  generalize riX zs S = xs at *
  generalize riY zs S = ys at *
  generalize riB zs S = b at *
  generalize (sidesF zs 4 0 (sidesF zs 4 0 (belF zs 3 S).2).2).2 = S3 at *
  generalize (sidesF zs 4 0 (belF zs 3 S).2).2 = S2 at *
  generalize (belF zs 3 S).2 = S1 at *
  generalize (belF zs 3 S).1 = x at *
  have HG : Hid (∀ w', w.grownBy w' (some g) → CodeV w' B a zs ∧ B ≤ w'.heap.size) := fun w' h => ⟨HC.out.below (below_of_grown h (by omega) (fun k hk => by cases hk; exact hB)), by have := h.size; omega⟩
  have Z0 := Blk.new w #[.int .i64 0, .int .i64 0, .slice none 0 0, .slice none 0 0] 26
  have g0 := World.grownBy_alloc w (.cells #[.int .i64 0, .int .i64 0, .slice none 0 0, .slice none 0 0] 26) (some g)
  have k0 := hcur.kept (World.grownBy_alloc w (.cells #[.int .i64 0, .int .i64 0, .slice none 0 0, .slice none 0 0] 26) none) (by simp)
  have gne : w.heap.size ≠ g := by omega
  clear hcur
  go_enter Tryd.func25, Tryd.ntmps25
  go_wp2_with fail
  refine (CB.out _ (HG.out _ g0).1 k0).mono ?_
  rintro e w1 ⟨rfl, hk⟩
  have Z1 := Z0.grown hk.2 (by intro e; cases e; exact gne rfl)
  have g1 := g0.trans hk.2
  have k1 := hk.1
  clear Z0 g0 k0 hk
  go_wp2_with fail
  refine (CX.out w1 (HG.out _ g1).1 k1).mono ?_
  rintro e w2 ⟨a1, c1, rfl, i1, ab1, hk⟩
  have Z2 := Z1.grown hk.2 (by intro e; cases e; exact gne rfl)
  have g2 := g1.trans hk.2
  have k2 := hk.1
  have s12 : g < w1.heap.size ∧ w.heap.size < w1.heap.size := ⟨k1.lt, Z1.lt⟩
  have HI2 : Hid (Ints w2 a1 xs ∧ ∀ p, a1 = some p → g < p.block ∧ w.heap.size < p.block) := ⟨i1, fun p hp => by have := ab1 p hp; omega⟩
  clear Z1 g1 k1 hk i1 ab1
  go_wp2_with fail
  refine (CY.out w2 (HG.out _ g2).1 k2).mono ?_
  rintro e w3 ⟨a2, c2, rfl, i2, ab2, hk⟩
  have Z3 := Z2.grown hk.2 (by intro e; cases e; exact gne rfl)
  have g3 := g2.trans hk.2
  have k3 := hk.1
  have s23 : g < w2.heap.size ∧ w.heap.size < w2.heap.size := ⟨k2.lt, Z2.lt⟩
  have HI3 : Hid ((Ints w3 a1 xs ∧ ∀ p, a1 = some p → g < p.block ∧ w.heap.size < p.block) ∧ (Ints w3 a2 ys ∧ ∀ p, a2 = some p → g < p.block ∧ w.heap.size < p.block)) := ⟨⟨HI2.out.1.grown hk.2 (fun p hp => by have := HI2.out.2 p hp; omega), HI2.out.2⟩, i2, fun p hp => by have := ab2 p hp; omega⟩
  have k3l := k3.lt
  clear Z2 g2 k2 hk i2 ab2 HI2
  go_wp2_with fail
  rw [← HBb.out]
  have V4 := Blk.new w3 #[.int .i64 3, .int .i64 b, .slice a1 xs.length c1, .slice a2 ys.length c2] 26
  have c34 := (Below.refl w3.heap.size w3).alloc (Nat.le_refl _) (.cells #[.int .i64 3, .int .i64 b, .slice a1 xs.length c1, .slice a2 ys.length c2] 26)
  have Z4 := Z3.below c34 Z3.lt
  have g4 := g3.trans (grown_of_below c34 (some g))
  have k4 := k3.kept (grown_of_below c34 none) (by simp)
  have F4 := (Fr.refl w3 w.heap.size).below c34
  have zl : w.heap.size < w3.heap.size := Z3.lt
  clear Z3 g3 k3 c34
  generalize w3.alloc _ = w4 at *
  obtain ⟨gv, hgv⟩ : ∃ gv, gv = w3.heap.size := ⟨_, rfl⟩
  rw [← hgv] at V4 zl k3l ⊢
  refine (CO.out w4 (HG.out _ g4).1 k4).mono ?_
  rintro e w5 ⟨rfl, hk⟩
  have Z5 := Z4.grown hk.2 (by intro e; cases e; exact gne rfl)
  have V5 := V4.grown hk.2 (by intro e; cases e; omega)
  have g5 := g4.trans hk.2
  have k5 := hk.1
  have F5 := F4.grown hk.2 (.inl (by omega))
  clear Z4 V4 g4 k4 F4 hk
  have HW3 : Hid (gv = w3.heap.size) := hgv
  clear hgv
  cases o with
  | false =>
    have HL : Hid (L = 3) := by show _ = _; rw [HV.out]; rfl
    obtain ⟨⟨z0, z1, z2, z3⟩, q0, q1, q2, q3⟩ := Z5.four
    obtain ⟨⟨x0, x1, x2, x3⟩, _⟩ := V5.four
    have ZF : Hid (Blk _ _ _ _) := (((Z5.set 0 (.int .i64 3) (by simp)).set 1 (.int .i64 b) (by simp)).set 2 (.slice a1 xs.length c1) (by simp)).set 3 (.slice a2 ys.length c2) (by simp)
    have FF : Hid (Fr w3 w.heap.size _) := (((F5.set 0 (.int .i64 3) (.inl (Nat.le_refl _))).set 1 (.int .i64 b) (.inl (Nat.le_refl _))).set 2 (.slice a1 xs.length c1) (.inl (Nat.le_refl _))).set 3 (.slice a2 ys.length c2) (.inl (Nat.le_refl _))
    have HK : Hid (CurV w5 g a zs.length SE ∧ w.grownBy w5 (some g)) := ⟨k5, g5⟩
    clear Z5 V5 F5 k5 g5
    go_wp2
    (try simp only [Exit.inBlock, Exit.then])
    refine bodyPost_ret (results_cell_row rfl _ _ w.heap.size 26 _ (0, 0) _ rfl ZF.out Tryd.underlying26 rfl (by kernel_rfl)) rfl ?_
    have kk := (((HK.out.1.kept (grown_set _ w.heap.size 0 (.int .i64 3)) (by simp; omega)).kept (grown_set _ w.heap.size 1 (.int .i64 b)) (by simp; omega)).kept (grown_set _ w.heap.size 2 (.slice a1 xs.length c1)) (by simp; omega)).kept (grown_set _ w.heap.size 3 (.slice a2 ys.length c2)) (by simp; omega)
    have gg := (((HK.out.2.andThen (grown_set w5 w.heap.size 0 (.int .i64 3)) (fun k hk => by cases hk; exact .inl (Nat.le_refl _))).andThen (grown_set _ w.heap.size 1 (.int .i64 b)) (fun k hk => by cases hk; exact .inl (Nat.le_refl _))).andThen (grown_set _ w.heap.size 2 (.slice a1 xs.length c1)) (fun k hk => by cases hk; exact .inl (Nat.le_refl _))).andThen (grown_set _ w.heap.size 3 (.slice a2 ys.length c2)) (fun k hk => by cases hk; exact .inl (Nat.le_refl _))
    exact ⟨a1, c1, a2, c2, by rw [HL.out]; rfl, HI3.out.1.1.far FF.out (fun p hp => (HI3.out.1.2 p hp).2), HI3.out.2.1.far FF.out (fun p hp => (HI3.out.2.2 p hp).2), (fun p hp => (HI3.out.1.2 p hp).2), (fun p hp => (HI3.out.2.2 p hp).2), kk, gg⟩
  | true =>
    have I5 : Ints w5 a1 xs ∧ Ints w5 a2 ys := ⟨HI3.out.1.1.far F5 (fun p hp => (HI3.out.1.2 p hp).2), HI3.out.2.1.far F5 (fun p hp => (HI3.out.2.2 p hp).2)⟩
    have CQ : Hid (Calls _ _ _ _ _) := specSquares 3 b a1 a2 c1 c2 xs ys w5 I5.1 I5.2 (by have := HLn.out.1; unfold maxLen; omega) (by have := HLn.out.2; unfold maxLen; omega)
    clear I5
    obtain ⟨⟨x0, x1, x2, x3⟩, _⟩ := V5.four
    go_wp2_with fail
    refine CQ.out.mono ?_
    rintro e w6 ⟨rfl, hc⟩
    have Z6 := Z5.below hc Z5.lt
    have V6 := V5.below hc V5.lt
    have g6 := g5.trans (grown_of_below hc _)
    have k6 := k5.kept (grown_of_below hc none) (by simp)
    have F6 := F5.below hc
    clear Z5 V5 F5 k5 g5 hc x0 x1 x2 x3 CQ
    obtain ⟨⟨z0, z1, z2, z3⟩, q0, q1, q2, q3⟩ := Z6.four
    obtain ⟨⟨x0, x1, x2, x3⟩, p0, p1, p2, p3⟩ := V6.four
    have gvl := V6.lt
    by_cases hq : sqI xs ys ≤ 16
    · have HL : Hid (L = 1) := by show _ = _; rw [HV.out]; simp [hq]
      have Z7 := Z6.other ⟨gv, 0, none⟩ (.int .i64 1) (by show w.heap.size ≠ gv; omega)
      have V7 := V6.set 0 (.int .i64 1) (by simp)
      have F7 := F6.set 0 (.int .i64 1) (.inr (by rw [HW3.out]; exact Nat.le_refl _)) (g := gv)
      have k7 := k6.kept (grown_set w6 gv 0 (.int .i64 1)) (by simp; omega)
      have g7 := g6.andThen (grown_set w6 gv 0 (.int .i64 1)) (fun k hk => by cases hk; exact .inl (by omega))
      have ZF : Hid (Blk _ _ _ _) := (((Z7.set 0 (.int .i64 1) (by simp)).set 1 (.int .i64 b) (by simp)).set 2 (.slice a1 xs.length c1) (by simp)).set 3 (.slice a2 ys.length c2) (by simp)
      have FF : Hid (Fr w3 w.heap.size _) := (((F7.set 0 (.int .i64 1) (.inl (Nat.le_refl _))).set 1 (.int .i64 b) (.inl (Nat.le_refl _))).set 2 (.slice a1 xs.length c1) (.inl (Nat.le_refl _))).set 3 (.slice a2 ys.length c2) (.inl (Nat.le_refl _))
      have HK : Hid (CurV _ g a zs.length SE ∧ w.grownBy _ (some g)) := ⟨k7, g7⟩
      clear Z6 V6 F6 k6 g6 Z7 V7 F7 k7 g7
      go_wp2
      (try simp only [Exit.inBlock, Exit.then])
      refine bodyPost_ret (results_cell_row rfl _ _ w.heap.size 26 _ (0, 0) _ rfl ZF.out Tryd.underlying26 rfl (by kernel_rfl)) rfl ?_
      have kk := (((HK.out.1.kept (grown_set _ w.heap.size 0 (.int .i64 1)) (by simp; omega)).kept (grown_set _ w.heap.size 1 (.int .i64 b)) (by simp; omega)).kept (grown_set _ w.heap.size 2 (.slice a1 xs.length c1)) (by simp; omega)).kept (grown_set _ w.heap.size 3 (.slice a2 ys.length c2)) (by simp; omega)
      have gg := (((HK.out.2.andThen (grown_set _ w.heap.size 0 (.int .i64 1)) (fun k hk => by cases hk; exact .inl (Nat.le_refl _))).andThen (grown_set _ w.heap.size 1 (.int .i64 b)) (fun k hk => by cases hk; exact .inl (Nat.le_refl _))).andThen (grown_set _ w.heap.size 2 (.slice a1 xs.length c1)) (fun k hk => by cases hk; exact .inl (Nat.le_refl _))).andThen (grown_set _ w.heap.size 3 (.slice a2 ys.length c2)) (fun k hk => by cases hk; exact .inl (Nat.le_refl _))
      exact ⟨a1, c1, a2, c2, by rw [HL.out]; rfl, HI3.out.1.1.far FF.out (fun p hp => (HI3.out.1.2 p hp).2), HI3.out.2.1.far FF.out (fun p hp => (HI3.out.2.2 p hp).2), (fun p hp => (HI3.out.1.2 p hp).2), (fun p hp => (HI3.out.2.2 p hp).2), kk, gg⟩
    · have HL : Hid (L = 3) := by show _ = _; rw [HV.out]; simp [hq]
      have ZF : Hid (Blk _ _ _ _) := (((Z6.set 0 (.int .i64 3) (by simp)).set 1 (.int .i64 b) (by simp)).set 2 (.slice a1 xs.length c1) (by simp)).set 3 (.slice a2 ys.length c2) (by simp)
      have FF : Hid (Fr w3 w.heap.size _) := (((F6.set 0 (.int .i64 3) (.inl (Nat.le_refl _))).set 1 (.int .i64 b) (.inl (Nat.le_refl _))).set 2 (.slice a1 xs.length c1) (.inl (Nat.le_refl _))).set 3 (.slice a2 ys.length c2) (.inl (Nat.le_refl _))
      have HK : Hid (CurV w6 g a zs.length SE ∧ w.grownBy w6 (some g)) := ⟨k6, g6⟩
      clear Z6 V6 F6 k6 g6
      go_wp2
      (try simp only [Exit.inBlock, Exit.then])
      refine bodyPost_ret (results_cell_row rfl _ _ w.heap.size 26 _ (0, 0) _ rfl ZF.out Tryd.underlying26 rfl (by kernel_rfl)) rfl ?_
      have kk := (((HK.out.1.kept (grown_set _ w.heap.size 0 (.int .i64 3)) (by simp; omega)).kept (grown_set _ w.heap.size 1 (.int .i64 b)) (by simp; omega)).kept (grown_set _ w.heap.size 2 (.slice a1 xs.length c1)) (by simp; omega)).kept (grown_set _ w.heap.size 3 (.slice a2 ys.length c2)) (by simp; omega)
      have gg := (((HK.out.2.andThen (grown_set w6 w.heap.size 0 (.int .i64 3)) (fun k hk => by cases hk; exact .inl (Nat.le_refl _))).andThen (grown_set _ w.heap.size 1 (.int .i64 b)) (fun k hk => by cases hk; exact .inl (Nat.le_refl _))).andThen (grown_set _ w.heap.size 2 (.slice a1 xs.length c1)) (fun k hk => by cases hk; exact .inl (Nat.le_refl _))).andThen (grown_set _ w.heap.size 3 (.slice a2 ys.length c2)) (fun k hk => by cases hk; exact .inl (Nat.le_refl _))
      exact ⟨a1, c1, a2, c2, by rw [HL.out]; rfl, HI3.out.1.1.far FF.out (fun p hp => (HI3.out.1.2 p hp).2), HI3.out.2.1.far FF.out (fun p hp => (HI3.out.2.2 p hp).2), (fun p hp => (HI3.out.1.2 p hp).2), (fun p hp => (HI3.out.2.2 p hp).2), kk, gg⟩

theorem fill_cur {w w5 : World} {g len : Nat} {a : Option Addr} {S : Nat × Int} {t : TypeId} {z0 z1 z2 z3 : Value} (hk : CurV w5 g a len S) (hg : w.grownBy w5 (some g)) (hz : Blk w5 w.heap.size #[z0, z1, z2, z3] t) (hl : g < w.heap.size) (v0 v1 v2 v3 : Value) :
    Blk ((((w5.setCell ⟨w.heap.size, 0, none⟩ v0).setCell ⟨w.heap.size, 1, none⟩ v1).setCell ⟨w.heap.size, 2, none⟩ v2).setCell ⟨w.heap.size, 3, none⟩ v3) w.heap.size #[v0, v1, v2, v3] t ∧ CurTo w ((((w5.setCell ⟨w.heap.size, 0, none⟩ v0).setCell ⟨w.heap.size, 1, none⟩ v1).setCell ⟨w.heap.size, 2, none⟩ v2).setCell ⟨w.heap.size, 3, none⟩ v3) g a len S := by
  have ne : some g ≠ some w.heap.size := by intro e; cases e; omega
  have st : ∀ k, some w.heap.size = some k → w.heap.size ≤ k ∨ some g = some k := fun k hk => by cases hk; exact .inl (Nat.le_refl _)
  exact ⟨(((hz.set 0 v0 (by simp)).set 1 v1 (by simp)).set 2 v2 (by simp)).set 3 v3 (by simp),
    (((hk.kept (grown_set _ _ _ _) ne).kept (grown_set _ _ _ _) ne).kept (grown_set _ _ _ _) ne).kept (grown_set _ _ _ _) ne,
    (((hg.andThen (grown_set _ _ _ _) st).andThen (grown_set _ _ _ _) st).andThen (grown_set _ _ _ _) st).andThen (grown_set _ _ _ _) st⟩
theorem set_cur {w w4 : World} {g len gv : Nat} {a : Option Addr} {S : Nat × Int} {t : TypeId} {zs : Array Value} (hk : CurV w4 g a len S) (hg : w.grownBy w4 (some g)) (hz : Blk w4 w.heap.size zs t) (h1 : w.heap.size < gv) (h2 : g < gv) (j : Nat) (v : Value) :
    CurV (w4.setCell ⟨gv, j, none⟩ v) g a len S ∧ w.grownBy (w4.setCell ⟨gv, j, none⟩ v) (some g) ∧ Blk (w4.setCell ⟨gv, j, none⟩ v) w.heap.size zs t :=
  ⟨hk.kept (grown_set _ _ _ _) (by intro e; cases e; omega), hg.andThen (grown_set _ _ _ _) (fun k hk => by cases hk; exact .inl (by omega)), hz.other _ _ (by show w.heap.size ≠ gv; omega)⟩
/-- A drawn par: its numbers. -/
def piQ (zs : List Int) (S : Nat × Int) : Int := (belF zs 41 S).1
def piC (zs : List Int) (S : Nat × Int) : Bool := !((belF zs 4 (belF zs 41 S).2).1 == 0)
def piT (zs : List Int) (S : Nat × Int) : Int := (belF zs 3 (belF zs 4 (belF zs 41 S).2).2).1
def piE (zs : List Int) (S : Nat × Int) : Nat × Int := (belF zs 3 (belF zs 4 (belF zs 41 S).2).2).2
theorem pi_ok (zs : List Int) (S : Nat × Int) : parB (piQ zs S) (piT zs S == 0) (piT zs S == 1) = true := by
  obtain ⟨b0, b1⟩ := belF_bd zs 41 S (by omega)
  have h : (piT zs S == 0 && piT zs S == 1) = false := by
    by_cases h0 : piT zs S = 0
    · simp [h0]
    · simp [h0]
  unfold parB
  rw [h]
  unfold piQ
  simp; omega

set_option maxHeartbeats 1600000 in
theorem parRight_val (g : Nat) (a : Option Addr) (zs : List Int) (B : Nat) (S : Nat × Int) (w : World) (hc : CodeV w B a zs) (hB : B ≤ g) (hcur : CurV w g a zs.length S) :
    Calls Tryd.prog 26 #[.pointer (some ⟨g, 0, none⟩)] w fun e w' => e = .returned (.agg #[.int .i64 (piQ zs S), .bool (piT zs S == 0), .bool (piT zs S == 1), .bool (piC zs S)]) ∧ CurTo w w' g a zs.length (piE zs S) := by
  have hgw := hcur.lt
  obtain ⟨t0, t1⟩ : 0 ≤ piT zs S ∧ piT zs S < 3 := belF_bd zs 3 _ (by omega)
  have CB : Hid (∀ w', CodeV w' B a zs → CurV w' g a zs.length S → Calls Tryd.prog 29 #[.pointer (some ⟨g, 0, none⟩), .int .i64 41] w' fun e w'' => e = .returned (.int .i64 (piQ zs S)) ∧ CurTo w' w'' g a zs.length (belF zs 41 S).2) := fun w' h1 h2 => below_val g a zs B 41 S w' h1 hB h2 (by omega) (by omega)
  have CO : Hid (∀ w', CodeV w' B a zs → CurV w' g a zs.length (belF zs 41 S).2 → Calls Tryd.prog 56 #[.pointer (some ⟨g, 0, none⟩), .int .i64 4] w' fun e w'' => e = .returned (.bool ((belF zs 4 (belF zs 41 S).2).1 == 0)) ∧ CurTo w' w'' g a zs.length (belF zs 4 (belF zs 41 S).2).2) := fun w' h1 h2 => once_val g a zs B 4 _ w' h1 hB h2 (by omega) (by omega)
  have CT : Hid (∀ w', CodeV w' B a zs → CurV w' g a zs.length (belF zs 4 (belF zs 41 S).2).2 → Calls Tryd.prog 29 #[.pointer (some ⟨g, 0, none⟩), .int .i64 3] w' fun e w'' => e = .returned (.int .i64 (piT zs S)) ∧ CurTo w' w'' g a zs.length (piE zs S)) := fun w' h1 h2 => below_val g a zs B 3 _ w' h1 hB h2 (by omega) (by omega)
  have HPC : Hid (piC zs S = !((belF zs 4 (belF zs 41 S).2).1 == 0)) := rfl
  have HC : Hid (CodeV w B a zs) := hc
  clear hc
  generalize piC zs S = pc at *
  generalize piE zs S = SE at *
  generalize piT zs S = tt at *
  generalize piQ zs S = q at *
  generalize (belF zs 4 (belF zs 41 S).2).2 = S2 at *
  generalize ((belF zs 4 (belF zs 41 S).2).1 == 0) = o at *
  generalize (belF zs 41 S).2 = S1 at *
  have HG : Hid (∀ w', w.grownBy w' (some g) → CodeV w' B a zs) := fun w' h => HC.out.below (below_of_grown h (by omega) (fun k hk => by cases hk; exact hB))
  have Z0 := Blk.new w #[.int .i64 0, .bool false, .bool false, .bool false] 28
  have g0 := World.grownBy_alloc w (.cells #[.int .i64 0, .bool false, .bool false, .bool false] 28) (some g)
  have k0 := hcur.kept (World.grownBy_alloc w (.cells #[.int .i64 0, .bool false, .bool false, .bool false] 28) none) (by simp)
  have gne : w.heap.size ≠ g := by omega
  clear hcur
  go_enter Tryd.func26, Tryd.ntmps26
  go_wp2_with fail
  refine (CB.out _ (HG.out _ g0) k0).mono ?_
  rintro e w1 ⟨rfl, hk⟩
  have Z1 := Z0.grown hk.2 (by intro e; cases e; exact gne rfl)
  have g1 := g0.trans hk.2
  have k1 := hk.1
  clear Z0 g0 k0 hk
  go_wp2_with fail
  refine (CO.out w1 (HG.out _ g1) k1).mono ?_
  rintro e w2 ⟨rfl, hk⟩
  have Z2 := Z1.grown hk.2 (by intro e; cases e; exact gne rfl)
  have g2 := g1.trans hk.2
  have k2 := hk.1
  clear Z1 g1 k1 hk
  go_wp2_with fail
  rw [← HPC.out]
  have V3 := Blk.new w2 #[.int .i64 q, .bool false, .bool false, .bool pc] 28
  have c23 := (Below.refl w2.heap.size w2).alloc (Nat.le_refl _) (.cells #[.int .i64 q, .bool false, .bool false, .bool pc] 28)
  have Z3 := Z2.below c23 Z2.lt
  have g3 := g2.trans (grown_of_below c23 (some g))
  have k3 := k2.kept (grown_of_below c23 none) (by simp)
  have zl : w.heap.size < w2.heap.size := Z2.lt
  have gl : g < w2.heap.size := k2.lt
  clear Z2 g2 k2 c23
  generalize w2.alloc _ = w3 at *
  generalize w2.heap.size = gv at *
  refine (CT.out w3 (HG.out _ g3) k3).mono ?_
  rintro e w4 ⟨rfl, hk⟩
  have Z4 := Z3.grown hk.2 (by intro e; cases e; exact gne rfl)
  have V4 := V3.grown hk.2 (by intro e; cases e; omega)
  have g4 := g3.trans hk.2
  have k4 := hk.1
  clear Z3 V3 g3 k3 hk
  obtain ⟨⟨z0, z1, z2, z3⟩, q0, q1, q2, q3⟩ := Z4.four
  obtain ⟨⟨x0, x1, x2, x3⟩, p0, p1, p2, p3⟩ := V4.four
  have gvl := V4.lt
  have HK : Hid (CurV w4 g a zs.length SE ∧ w.grownBy w4 (some g)) := ⟨k4, g4⟩
  have HZ : Hid (Blk w4 w.heap.size #[.int .i64 0, .bool false, .bool false, .bool false] 28) := Z4
  clear Z4 V4 k4 g4
  rcases (show tt = 0 ∨ tt = 1 ∨ tt = 2 by omega) with rfl | rfl | rfl
  · have F0 : Hid _ := set_cur HK.out.1 HK.out.2 HZ.out zl gl 1 (.bool true)
    have F1 : Hid _ := fill_cur F0.out.1 F0.out.2.1 F0.out.2.2 hgw (.int .i64 q) (.bool true) (.bool false) (.bool pc)
    go_wp2
    (try simp only [Exit.inBlock, Exit.then])
    refine bodyPost_ret (results_cell_row rfl _ _ w.heap.size 28 _ (0, 0) _ rfl F1.out.1 Tryd.underlying28 rfl (by kernel_rfl)) rfl ?_
    exact ⟨rfl, F1.out.2⟩
  · have F0 : Hid _ := set_cur HK.out.1 HK.out.2 HZ.out zl gl 2 (.bool true)
    have F1 : Hid _ := fill_cur F0.out.1 F0.out.2.1 F0.out.2.2 hgw (.int .i64 q) (.bool false) (.bool true) (.bool pc)
    go_wp2
    (try simp only [Exit.inBlock, Exit.then])
    refine bodyPost_ret (results_cell_row rfl _ _ w.heap.size 28 _ (0, 0) _ rfl F1.out.1 Tryd.underlying28 rfl (by kernel_rfl)) rfl ?_
    exact ⟨rfl, F1.out.2⟩
  · have F1 : Hid _ := fill_cur HK.out.1 HK.out.2 HZ.out hgw (.int .i64 q) (.bool false) (.bool false) (.bool pc)
    go_wp2
    (try simp only [Exit.inBlock, Exit.then])
    refine bodyPost_ret (results_cell_row rfl _ _ w.heap.size 28 _ (0, 0) _ rfl F1.out.1 Tryd.underlying28 rfl (by kernel_rfl)) rfl ?_
    exact ⟨rfl, F1.out.2⟩

set_option maxHeartbeats 800000 in
theorem tiles_val (l b : Int) (a1 a2 : Option Addr) (c1 c2 : Nat) (xs ys : List Int) (w : World) (h1 : Ints w a1 xs) (h2 : Ints w a2 ys) (n1 : xs.length ≤ 3) (n2 : ys.length ≤ 3) (hs : seqB l b xs ys = true) :
    Calls Tryd.prog 43 #[.agg #[.int .i64 l, .int .i64 b, .slice a1 xs.length c1, .slice a2 ys.length c2]] w fun e w' => e = .returned (.int .i64 ((xs.length : Int) * (ys.length : Int))) ∧ Below w.heap.size w w' := by
  have CO : Hid (∀ w', Below w.heap.size w w' → Calls Tryd.prog 51 #[.agg #[.int .i64 l, .int .i64 b, .slice a1 xs.length c1, .slice a2 ys.length c2]] w' fun e w'' => e = .returned (.bool true) ∧ Below w'.heap.size w' w'') := fun w' hb => by
    have := specSeqOk l b a1 a2 c1 c2 xs ys w' (h1.below hb (Nat.le_refl _)) (h2.below hb (Nat.le_refl _)) (by unfold maxLen; omega) (by unfold maxLen; omega)
    rwa [hs] at this
  have m1 : (xs.length : Int) ≤ 3 := by omega
  have m2 : (ys.length : Int) ≤ 3 := by omega
  have HM : Hid (wrap64 ((xs.length : Int) * (ys.length : Int)) = (xs.length : Int) * (ys.length : Int)) := by
    have hh : (xs.length : Int) * (ys.length : Int) ≤ 3 * 3 := Int.mul_le_mul m1 m2 (by omega) (by omega)
    have h0 : 0 ≤ (xs.length : Int) * (ys.length : Int) := Int.mul_nonneg (by omega) (by omega)
    exact IntWalk.wrap64_in _ ⟨by omega, by omega⟩
  clear h1 h2 hs
  go_enter Tryd.func43, Tryd.ntmps43
  go_wp2_with fail
  generalize hW : World.alloc w _ = W
  have B0 : Blk W w.heap.size #[.int .i64 l, .int .i64 b, .slice a1 xs.length c1, .slice a2 ys.length c2] 26 := by rw [← hW]; exact Blk.new w _ _
  have hb0 : Below w.heap.size w W := by rw [← hW]; exact (Below.refl _ _).alloc (Nat.le_refl _) _
  clear hW
  refine (CO.out W hb0).mono ?_
  rintro e w1 ⟨rfl, hc⟩
  have hb1 := hb0.trans (hc.mono hb0.size)
  obtain ⟨⟨x0, x1, x2, x3⟩, _⟩ := (B0.below hc B0.lt).four
  clear hc hb0 B0
  go_wp2
  go_ret
  refine ⟨?_, hb1⟩
  show Ending.returned (.int .i64 (wrap64 ((xs.length : Int) * (ys.length : Int)))) = _
  rw [HM.out]
end Go.Proofs.YtdokmojifkggjaaDoor
