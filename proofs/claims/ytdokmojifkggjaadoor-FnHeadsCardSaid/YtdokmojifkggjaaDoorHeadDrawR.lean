/-
  The walks of spec.l07Head and of spec.DrawSets: drawn sets with their values, a drawn head within its bounds.
-/
import Derived.Test.YtdokmojifkggjaaDoorSetDraw
namespace Go.Proofs.YtdokmojifkggjaaDoor
open Go.RowKit
set_option linter.unusedVariables false
set_option maxRecDepth 20000

/-- A head within the bounds of its set. -/
def HeadIn (n b t f q : Int) : Prop := (0 ≤ t ∧ t < n) ∧ (0 ≤ f ∧ f < 2 ^ b.toNat) ∧ 0 ≤ q ∧ q ≤ 40

set_option maxHeartbeats 1600000 in
theorem head_val (g : Nat) (a : Option Addr) (zs : List Int) (B : Nat) (S : Nat × Int) (l b : Int) (a1 a2 : Option Addr) (c1 c2 : Nat) (xs ys : List Int) (w : World) (hc : CodeV w B a zs) (hB : B ≤ g) (hcur : CurV w g a zs.length S) (h1 : Ints w a1 xs) (h2 : Ints w a2 ys) (q1 : ∀ p, a1 = some p → p.block ≠ g) (q2 : ∀ p, a2 = some p → p.block ≠ g) (n1 : xs.length ≤ 3) (n2 : ys.length ≤ 3) (p1 : 1 ≤ xs.length) (p2 : 1 ≤ ys.length) (hb0 : 3 ≤ b) (hb1 : b ≤ 5) (hs : seqB l b xs ys = true) :
    Calls Tryd.prog 27 #[.pointer (some ⟨g, 0, none⟩), .agg #[.int .i64 l, .int .i64 b, .slice a1 xs.length c1, .slice a2 ys.length c2]] w fun e w' => ∃ (t f q : Int), e = .returned (.agg #[.int .i64 t, .int .i64 f, .int .i64 q]) ∧ HeadIn ((xs.length : Int) * (ys.length : Int)) b t f q ∧ w.grownBy w' (some g) := by
  have hgw := hcur.lt
  have m0 : 1 ≤ (xs.length : Int) * (ys.length : Int) := by
    have : 1 * 1 ≤ (xs.length : Int) * (ys.length : Int) := Int.mul_le_mul (by omega) (by omega) (by omega) (by omega)
    omega
  have m1 : (xs.length : Int) * (ys.length : Int) ≤ 9 := by
    have : (xs.length : Int) * (ys.length : Int) ≤ 3 * 3 := Int.mul_le_mul (by omega) (by omega) (by omega) (by omega)
    omega
  have HT : Hid (∀ w', Below w.heap.size w w' → Calls Tryd.prog 43 #[.agg #[.int .i64 l, .int .i64 b, .slice a1 xs.length c1, .slice a2 ys.length c2]] w' fun e w'' => e = .returned (.int .i64 ((xs.length : Int) * (ys.length : Int))) ∧ Below w'.heap.size w' w'') := fun w' hb => tiles_val l b a1 a2 c1 c2 xs ys w' (h1.below hb (Nat.le_refl _)) (h2.below hb (Nat.le_refl _)) n1 n2 hs
  have HC : Hid (CodeV w B a zs) := hc
  have HG : Hid (∀ w', w.grownBy w' (some g) → CodeV w' B a zs) := fun w' h => HC.out.below (below_of_grown h (by omega) (fun k hk => by cases hk; exact hB))
  have HBel : Hid (∀ n S' w', 1 ≤ n → n ≤ 256 → CodeV w' B a zs → CurV w' g a zs.length S' → Calls Tryd.prog 29 #[.pointer (some ⟨g, 0, none⟩), .int .i64 n] w' fun e w'' => ∃ x S'', e = .returned (.int .i64 x) ∧ Hid (0 ≤ x ∧ x < n) ∧ CurTo w' w'' g a zs.length S'') := fun n S' w' k1 k2 hc' hk => (below_val g a zs B n S' w' hc' hB hk k1 k2).mono (fun e w'' h => ⟨_, _, h.1, belF_bd zs n S' k1, h.2⟩)
  generalize (xs.length : Int) * (ys.length : Int) = nn at *
  have hbA := ((Below.refl w.heap.size w).alloc (Nat.le_refl _) (.cells #[.int .i64 l, .int .i64 b, .slice a1 xs.length c1, .slice a2 ys.length c2] 26)).alloc (by simp) (.cells #[.int .i64 0, .int .i64 0, .int .i64 0] 30)
  have B0 := (Blk.new w #[.int .i64 l, .int .i64 b, .slice a1 xs.length c1, .slice a2 ys.length c2] 26).alloc (.cells #[.int .i64 0, .int .i64 0, .int .i64 0] 30)
  have Z0 := Blk.new' (w := w.alloc (.cells #[.int .i64 l, .int .i64 b, .slice a1 xs.length c1, .slice a2 ys.length c2] 26)) (g := w.heap.size + 1) #[.int .i64 0, .int .i64 0, .int .i64 0] 30 (by simp)
  clear hc h1 h2 hs q1 q2
  go_enter Tryd.func27, Tryd.ntmps27
  go_wp2_with fail
  refine (HT.out _ hbA).mono ?_
  rintro e w1 ⟨rfl, hc⟩
  have hbw1 := hbA.trans (hc.mono hbA.size)
  have B1 := B0.below hc B0.lt
  have Z1 := Z0.below hc Z0.lt
  have g1 := grown_of_below hbw1 (some g)
  have k1 := hcur.kept (grown_of_below hbw1 none) (by simp)
  clear hc hbA B0 Z0 hcur hbw1
  go_wp2_with fail
  refine (HBel.out nn S w1 m0 (by omega) (HG.out _ g1) k1).mono ?_
  rintro e w2 ⟨t, S2, rfl, ht, hk⟩
  have B2 := B1.grown hk.2 (by intro e; have := Option.some.inj e; omega)
  have Z2 := Z1.grown hk.2 (by intro e; have := Option.some.inj e; omega)
  have g2 := g1.trans hk.2
  have k2 := hk.1
  clear hk B1 Z1 g1 k1
  go_wp2_with fail
  refine (HBel.out 41 S2 w2 (by omega) (by omega) (HG.out _ g2) k2).mono ?_
  rintro e w3 ⟨q, S3, rfl, hq, hk⟩
  have B3 := B2.grown hk.2 (by intro e; have := Option.some.inj e; omega)
  have Z3 := Z2.grown hk.2 (by intro e; have := Option.some.inj e; omega)
  have g3 := g2.trans hk.2
  have k3 := hk.1
  have b3l := B3.lt
  have z3l := Z3.lt
  obtain ⟨⟨x0, x1, x2, x3⟩, _⟩ := B3.four
  clear hk B2 Z2 g2 k2
  have V4 := Blk.new w3 #[.int .i64 t, .int .i64 0, .int .i64 q] 30
  have c34 := (Below.refl w3.heap.size w3).alloc (Nat.le_refl _) (.cells #[.int .i64 t, .int .i64 0, .int .i64 q] 30)
  have B4 := B3.below c34 B3.lt
  have Z4 := Z3.below c34 Z3.lt
  have g4 := g3.trans (grown_of_below c34 (some g))
  have k4 := k3.kept (grown_of_below c34 none) (by simp)
  have k3l := k3.lt
  have HIn : (decide ((0 : Int) ≤ b) && decide (b ≤ 8)) = true := by simp; omega
  have hg3 : w.heap.size < w3.heap.size := by omega
  clear B3 Z3 g3 k3 c34
  go_wp2_with (go_at_call 44; refine (in_any _ _ _ _).mono ?_; rintro e w9 ⟨rfl, hw⟩; subst w9)
  have hp : 1 ≤ wrap64 (2 ^ b.toNat) ∧ wrap64 (2 ^ b.toNat) ≤ 256 := by
    rcases (show b = 3 ∨ b = 4 ∨ b = 5 by omega) with rfl | rfl | rfl
    · rw [show ((2 : Int) ^ (3 : Int).toNat) = 8 by decide, IntWalk.wrap64_in 8 ⟨by omega, by omega⟩]; omega
    · rw [show ((2 : Int) ^ (4 : Int).toNat) = 16 by decide, IntWalk.wrap64_in 16 ⟨by omega, by omega⟩]; omega
    · rw [show ((2 : Int) ^ (5 : Int).toNat) = 32 by decide, IntWalk.wrap64_in 32 ⟨by omega, by omega⟩]; omega
  have hpw : Hid (wrap64 (2 ^ b.toNat) = 2 ^ b.toNat) := by
    show _ = _
    rcases (show b = 3 ∨ b = 4 ∨ b = 5 by omega) with rfl | rfl | rfl
    · rw [show ((2 : Int) ^ (3 : Int).toNat) = 8 by decide, IntWalk.wrap64_in 8 ⟨by omega, by omega⟩]
    · rw [show ((2 : Int) ^ (4 : Int).toNat) = 16 by decide, IntWalk.wrap64_in 16 ⟨by omega, by omega⟩]
    · rw [show ((2 : Int) ^ (5 : Int).toNat) = 32 by decide, IntWalk.wrap64_in 32 ⟨by omega, by omega⟩]
  generalize wrap64 (2 ^ b.toNat) = nb at *
  clear x0 x1 x2 x3
  generalize w3.alloc _ = w4 at *
  generalize w3.heap.size = gv at *
  refine (HBel.out nb S3 w4 hp.1 hp.2 (HG.out _ g4) k4).mono ?_
  rintro e w5 ⟨f, S5, rfl, hf, hk⟩
  have Z5 := Z4.grown hk.2 (by intro e; have := Option.some.inj e; omega)
  have V5 := V4.grown hk.2 (by intro e; have := Option.some.inj e; omega)
  have g5 := g4.trans hk.2
  clear Z4 V4 B4 g4 k4 hk
  obtain ⟨⟨v0, v1, v2⟩, r0, r1, r2⟩ := V5.three
  obtain ⟨⟨z0, z1, z2⟩, s0, s1, s2⟩ := Z5.three
  have zv : w.heap.size + 1 < gv := by omega
  have ZF : Hid (Blk _ _ _ _) := (((Z5.other ⟨gv, 1, none⟩ (.int .i64 f) (by show w.heap.size + 1 ≠ gv; omega)).set 0 (.int .i64 t) (by simp)).set 1 (.int .i64 f) (by simp)).set 2 (.int .i64 q) (by simp)
  have GF : Hid (World.grownBy w _ (some g)) := (((g5.andThen (grown_set w5 gv 1 (.int .i64 f)) (fun k hk => by cases hk; exact .inl (by omega))).andThen (grown_set _ (w.heap.size + 1) 0 (.int .i64 t)) (fun k hk => by cases hk; exact .inl (by omega))).andThen (grown_set _ (w.heap.size + 1) 1 (.int .i64 f)) (fun k hk => by cases hk; exact .inl (by omega))).andThen (grown_set _ (w.heap.size + 1) 2 (.int .i64 q)) (fun k hk => by cases hk; exact .inl (by omega))
  clear Z5 V5 g5
  go_wp2
  (try simp only [Exit.inBlock, Exit.then])
  refine bodyPost_ret (results_cell_row rfl _ _ (w.heap.size + 1) 30 _ (0, 0) _ rfl ZF.out Tryd.underlying30 rfl (by kernel_rfl)) rfl ?_
  exact ⟨t, f, q, rfl, ⟨ht.out, ⟨hf.out.1, by have h := hf.out.2; rw [hpw.out] at h; exact h⟩, hq.out.1, by have h := hq.out.2; omega⟩, GF.out⟩

/-- Three structs, handed back out of their variables. -/
theorem results_cell_three {P : Program} {fn : Func} {p1 p2 p3 : Tmp} {t1 t2 t3 : TypeId} (h : fn.results = #[.cell p1 t1, .cell p2 t2, .cell p3 t3]) (tmps : Array Value) (w : World) (g1 g2 g3 : Nat) (y1 y2 y3 : TypeId) (c1 c2 c3 : Array Value) (d1 d2 d3 : TypeDesc)
    (hp1 : tmps.getD p1 undef = .pointer (some ⟨g1, 0, none⟩)) (hp2 : tmps.getD p2 undef = .pointer (some ⟨g2, 0, none⟩)) (hp3 : tmps.getD p3 undef = .pointer (some ⟨g3, 0, none⟩))
    (hg1 : Blk w g1 c1 y1) (hg2 : Blk w g2 c2 y2) (hg3 : Blk w g3 c3 y3)
    (hu1 : P.underlying t1 = some d1) (hd1 : (match d1 with | .struct _ | .array _ _ => true | _ => false) = true) (hi1 : (P.info? t1).map (·.size) = some c1.size)
    (hu2 : P.underlying t2 = some d2) (hd2 : (match d2 with | .struct _ | .array _ _ => true | _ => false) = true) (hi2 : (P.info? t2).map (·.size) = some c2.size)
    (hu3 : P.underlying t3 = some d3) (hd3 : (match d3 with | .struct _ | .array _ _ => true | _ => false) = true) (hi3 : (P.info? t3).map (·.size) = some c3.size) :
    (results fn tmps).run P w = .ok (.tuple #[.agg c1, .agg c2, .agg c3]) w := by
  have hp1' : tmps[p1]?.getD undef = .pointer (some ⟨g1, 0, none⟩) := by simpa using hp1
  have hp2' : tmps[p2]?.getD undef = .pointer (some ⟨g2, 0, none⟩) := by simpa using hp2
  have hp3' : tmps[p3]?.getD undef = .pointer (some ⟨g3, 0, none⟩) := by simpa using hp3
  simp [results, h, hp1', hp2', hp3', asAddr, Result.andThen, run_loadVar_row w g1 y1 t1 c1 (0, 0) d1 hg1 hu1 hd1 hi1, run_loadVar_row w g2 y2 t2 c2 (0, 0) d2 hg2 hu2 hd2 hi2, run_loadVar_row w g3 y3 t3 c3 (0, 0) d3 hg3 hu3 hd3 hi3]

theorem Blk.other4 {w : World} {g k : Nat} {cs : Array Value} {t : TypeId} (h : Blk w g cs t) (hne : g ≠ k) (v0 v1 v2 v3 : Value) : Blk ((((w.setCell ⟨k, 0, none⟩ v0).setCell ⟨k, 1, none⟩ v1).setCell ⟨k, 2, none⟩ v2).setCell ⟨k, 3, none⟩ v3) g cs t :=
  (((h.other ⟨k, 0, none⟩ v0 hne).other ⟨k, 1, none⟩ v1 hne).other ⟨k, 2, none⟩ v2 hne).other ⟨k, 3, none⟩ v3 hne
theorem Blk.other3 {w : World} {g k : Nat} {cs : Array Value} {t : TypeId} (h : Blk w g cs t) (hne : g ≠ k) (v0 v1 v2 : Value) : Blk (((w.setCell ⟨k, 0, none⟩ v0).setCell ⟨k, 1, none⟩ v1).setCell ⟨k, 2, none⟩ v2) g cs t :=
  ((h.other ⟨k, 0, none⟩ v0 hne).other ⟨k, 1, none⟩ v1 hne).other ⟨k, 2, none⟩ v2 hne
theorem Blk.fill4 {w : World} {g : Nat} {t : TypeId} {z0 z1 z2 z3 : Value} (h : Blk w g #[z0, z1, z2, z3] t) (v0 v1 v2 v3 : Value) : Blk ((((w.setCell ⟨g, 0, none⟩ v0).setCell ⟨g, 1, none⟩ v1).setCell ⟨g, 2, none⟩ v2).setCell ⟨g, 3, none⟩ v3) g #[v0, v1, v2, v3] t :=
  (((h.set 0 v0 (by simp)).set 1 v1 (by simp)).set 2 v2 (by simp)).set 3 v3 (by simp)
theorem Blk.fill3 {w : World} {g : Nat} {t : TypeId} {z0 z1 z2 : Value} (h : Blk w g #[z0, z1, z2] t) (v0 v1 v2 : Value) : Blk (((w.setCell ⟨g, 0, none⟩ v0).setCell ⟨g, 1, none⟩ v1).setCell ⟨g, 2, none⟩ v2) g #[v0, v1, v2] t :=
  ((h.set 0 v0 (by simp)).set 1 v1 (by simp)).set 2 v2 (by simp)

set_option maxHeartbeats 3200000 in
theorem drawSets_val (a : Option Addr) (cap B : Nat) (zs : List Int) (w : World) (hc : CodeV w B a zs) (hB : B ≤ w.heap.size) :
    Calls Tryd.prog 8 #[.slice a zs.length cap] w fun e w' => ∃ (a1 a2 : Option Addr) (c1 c2 : Nat) (t f q : Int), e = .returned (.tuple #[.agg #[.int .i64 (riL zs (newF zs)), .int .i64 (riB zs (newF zs)), .slice a1 (riX zs (newF zs)).length c1, .slice a2 (riY zs (newF zs)).length c2], .agg #[.int .i64 (piQ zs (riE zs (newF zs))), .bool (piT zs (riE zs (newF zs)) == 0), .bool (piT zs (riE zs (newF zs)) == 1), .bool (piC zs (riE zs (newF zs)))], .agg #[.int .i64 t, .int .i64 f, .int .i64 q]]) ∧ HeadIn (((riX zs (newF zs)).length : Int) * ((riY zs (newF zs)).length : Int)) (riB zs (newF zs)) t f q ∧ Ints w' a1 (riX zs (newF zs)) ∧ Ints w' a2 (riY zs (newF zs)) ∧ Below w.heap.size w w' := by
  have HC : Hid (CodeV w B a zs) := hc
  have HOk : Hid _ := ri_ok zs (newF zs)
  have hX1 : 1 ≤ (riX zs (newF zs)).length ∧ 1 ≤ (riY zs (newF zs)).length := ⟨(sides_good zs _).2.1, (sides_good zs _).2.1⟩
  have CR : Hid (∀ g w', CodeV w' B a zs → B ≤ g → CurV w' g a zs.length (newF zs) → Calls Tryd.prog 25 #[.pointer (some ⟨g, 0, none⟩)] w' _) := fun g w' h1 h2 h3 => right_val g a zs B (newF zs) w' h1 h2 h3
  have CP : Hid (∀ g w', CodeV w' B a zs → B ≤ g → CurV w' g a zs.length (riE zs (newF zs)) → Calls Tryd.prog 26 #[.pointer (some ⟨g, 0, none⟩)] w' _) := fun g w' h1 h2 h3 => parRight_val g a zs B (riE zs (newF zs)) w' h1 h2 h3
  obtain ⟨okS, n1, n2, bb0, bb1⟩ := HOk.out
  clear hc HOk
  generalize piQ zs (riE zs (newF zs)) = pq at *
  generalize (piT zs (riE zs (newF zs)) == 0) = pg at *
  generalize (piT zs (riE zs (newF zs)) == 1) = px at *
  generalize piC zs (riE zs (newF zs)) = pc at *
  generalize piE zs (riE zs (newF zs)) = S5 at *
  generalize riL zs (newF zs) = L at *
  generalize riB zs (newF zs) = b at *
  generalize riX zs (newF zs) = xs at *
  generalize riY zs (newF zs) = ys at *
  generalize riE zs (newF zs) = SE at *
  go_enter Tryd.func8, Tryd.ntmps8
  go_wp2_with fail
  generalize hW : World.alloc (World.alloc (World.alloc w _) _) _ = W
  have hs : W.heap.size = w.heap.size + 3 := by rw [← hW]; simp
  have B0 : Blk W w.heap.size #[.int .i64 0, .int .i64 0, .slice none 0 0, .slice none 0 0] 26 := by rw [← hW]; exact ((Blk.new w _ _).alloc _).alloc _
  have B1 : Blk W (w.heap.size + 1) #[.int .i64 0, .bool false, .bool false, .bool false] 28 := by rw [← hW]; exact (Blk.new' _ _ (by simp)).alloc _
  have B2 : Blk W (w.heap.size + 1 + 1) #[.int .i64 0, .int .i64 0, .int .i64 0] 30 := by rw [← hW]; exact Blk.new' _ _ (by simp)
  have hb0 : Below w.heap.size w W := by rw [← hW]; exact (((Below.refl _ _).alloc (Nat.le_refl _) _).alloc (by simp) _).alloc (by simp; omega) _
  clear hW
  have cW := HC.out.below (hb0.mono hB)
  refine (new_val a cap B zs W cW (by omega)).mono ?_
  rintro e w1 ⟨rfl, k1, hc⟩
  have D0 := B0.below hc B0.lt
  have D1 := B1.below hc B1.lt
  have D2 := B2.below hc B2.lt
  have hb1 := hb0.trans (hc.mono hb0.size)
  have c1w := cW.below (hc.mono (by omega))
  have gcl := k1.lt
  rw [hs] at k1 gcl ⊢
  clear hc B0 B1 B2 hb0 cW hs
  go_wp2_with fail
  refine (CR.out (w.heap.size + 3) w1 c1w (by omega) k1).mono ?_
  rintro e w2 ⟨a1, c1, a2, c2, rfl, i1, i2, q1, q2, hk⟩
  have E0 := D0.grown hk.2 (by intro e; have := Option.some.inj e; omega)
  have E1 := D1.grown hk.2 (by intro e; have := Option.some.inj e; omega)
  have E2 := D2.grown hk.2 (by intro e; have := Option.some.inj e; omega)
  have hb2 := hb1.trans (below_of_grown hk.2 (B := w.heap.size) hb1.size (fun k hk => by cases hk; omega))
  have c2w := hk.code c1w (by omega) (by have := hb1.size; omega)
  have k2 := hk.1
  have HI2 : Hid ((Ints w2 a1 xs ∧ ∀ p, a1 = some p → p.block ≠ w.heap.size + 3 ∧ w.heap.size + 3 < p.block) ∧ (Ints w2 a2 ys ∧ ∀ p, a2 = some p → p.block ≠ w.heap.size + 3 ∧ w.heap.size + 3 < p.block)) := ⟨⟨i1, fun p hp => by have := q1 p hp; omega⟩, i2, fun p hp => by have := q2 p hp; omega⟩
  have k2l := k2.lt
  clear hk D0 D1 D2 hb1 c1w k1 i1 i2 q1 q2
  go_wp2_with fail
  have V3 := Blk.new w2 #[.int .i64 L, .int .i64 b, .slice a1 xs.length c1, .slice a2 ys.length c2] 26
  have c23 := (Below.refl w2.heap.size w2).alloc (Nat.le_refl _) (.cells #[.int .i64 L, .int .i64 b, .slice a1 xs.length c1, .slice a2 ys.length c2] 26)
  have F0 := E0.below c23 E0.lt
  have F1 := E1.below c23 E1.lt
  have F2 := E2.below c23 E2.lt
  have hb3 := hb2.trans (c23.mono hb2.size)
  have c3w := c2w.below (c23.mono (by have := hb2.size; omega))
  have k3 := k2.kept (grown_of_below c23 none) (by simp)
  have HI3 : Hid ((Ints _ a1 xs ∧ ∀ p, a1 = some p → p.block ≠ w.heap.size + 3 ∧ w.heap.size + 3 < p.block) ∧ (Ints _ a2 ys ∧ ∀ p, a2 = some p → p.block ≠ w.heap.size + 3 ∧ w.heap.size + 3 < p.block)) := ⟨⟨HI2.out.1.1.below c23 (Nat.le_refl _), HI2.out.1.2⟩, HI2.out.2.1.below c23 (Nat.le_refl _), HI2.out.2.2⟩
  clear c23 E0 E1 E2 hb2 c2w k2 HI2
  generalize w2.alloc _ = w3 at *
  generalize w2.heap.size = gs at *
  refine (CP.out (w.heap.size + 3) w3 c3w (by omega) k3).mono ?_
  rintro e w4 ⟨rfl, hk⟩
  have G0 := F0.grown hk.2 (by intro e; have := Option.some.inj e; omega)
  have G1 := F1.grown hk.2 (by intro e; have := Option.some.inj e; omega)
  have G2 := F2.grown hk.2 (by intro e; have := Option.some.inj e; omega)
  have V4 := V3.grown hk.2 (by intro e; have := Option.some.inj e; omega)
  have hb4 := hb3.trans (below_of_grown hk.2 (B := w.heap.size) hb3.size (fun k hk => by cases hk; omega))
  have c4w := hk.code c3w (by omega) (by have := hb3.size; omega)
  have k4 := hk.1
  have HI4 : Hid ((Ints w4 a1 xs ∧ ∀ p, a1 = some p → p.block ≠ w.heap.size + 3 ∧ w.heap.size + 3 < p.block) ∧ (Ints w4 a2 ys ∧ ∀ p, a2 = some p → p.block ≠ w.heap.size + 3 ∧ w.heap.size + 3 < p.block)) := ⟨⟨HI3.out.1.1.grown hk.2 (fun p hp => (HI3.out.1.2 p hp).1), HI3.out.1.2⟩, HI3.out.2.1.grown hk.2 (fun p hp => (HI3.out.2.2 p hp).1), HI3.out.2.2⟩
  clear hk F0 F1 F2 V3 hb3 c3w k3 HI3
  obtain ⟨⟨x0, x1, x2, x3⟩, _⟩ := V4.four
  have gsl := V4.lt
  go_wp2_with fail
  have P5 := Blk.new w4 #[.int .i64 pq, .bool pg, .bool px, .bool pc] 28
  have c45 := (Below.refl w4.heap.size w4).alloc (Nat.le_refl _) (.cells #[.int .i64 pq, .bool pg, .bool px, .bool pc] 28)
  have H0 := (G0.below c45 G0.lt).drew
  have H1 := (G1.below c45 G1.lt).drew
  have H2 := (G2.below c45 G2.lt).drew
  have V5 := (V4.below c45 V4.lt).drew
  have P5' := P5.drew
  have hb5 := (hb4.trans (c45.mono hb4.size)).drew
  have c5w := c4w.below ((c45.mono (by have := hb4.size; omega)).drew)
  have k5 : CurV (World.drew _) (w.heap.size + 3) a zs.length S5 := (k4.kept (grown_of_below c45 none) (by simp)).kept (grown_drew _ none) (by simp)
  have HI5 : Hid ((Ints (World.drew _) a1 xs ∧ ∀ p, a1 = some p → p.block ≠ w.heap.size + 3 ∧ w.heap.size + 3 < p.block) ∧ (Ints (World.drew _) a2 ys ∧ ∀ p, a2 = some p → p.block ≠ w.heap.size + 3 ∧ w.heap.size + 3 < p.block)) := ⟨⟨HI4.out.1.1.below c45.drew (Nat.le_refl _), HI4.out.1.2⟩, HI4.out.2.1.below c45.drew (Nat.le_refl _), HI4.out.2.2⟩
  have gpl : w.heap.size + 3 < w4.heap.size := k4.lt
  have gsp : gs < w4.heap.size := gsl
  clear G0 G1 G2 V4 P5 c45 hb4 c4w k4 HI4 x0 x1 x2 x3
  generalize w4.alloc _ = w5 at *
  generalize w4.heap.size = gp at *
  obtain ⟨⟨x0, x1, x2, x3⟩, _⟩ := V5.four
  obtain ⟨⟨y0, y1, y2, y3⟩, _⟩ := P5'.four
  have HH : Hid (Calls _ _ _ _ _) := head_val (w.heap.size + 3) a zs B S5 L b a1 a2 c1 c2 xs ys w5.drew c5w (by omega) k5 HI5.out.1.1 HI5.out.2.1 (fun p hp => (HI5.out.1.2 p hp).1) (fun p hp => (HI5.out.2.2 p hp).1) n1 n2 hX1.1 hX1.2 bb0 bb1 okS
  have HB5 : Hid (((Blk w5.drew w.heap.size #[.int .i64 0, .int .i64 0, .slice none 0 0, .slice none 0 0] 26 ∧ Blk w5.drew (w.heap.size + 1) #[.int .i64 0, .bool false, .bool false, .bool false] 28) ∧ Blk w5.drew (w.heap.size + 1 + 1) #[.int .i64 0, .int .i64 0, .int .i64 0] 30) ∧ Blk w5.drew gs #[.int .i64 L, .int .i64 b, .slice a1 xs.length c1, .slice a2 ys.length c2] 26 ∧ Blk w5.drew gp #[.int .i64 pq, .bool pg, .bool px, .bool pc] 28) := ⟨⟨⟨H0, H1⟩, H2⟩, V5, P5'⟩
  have KB : Hid (∀ w', Blk w' gs #[.int .i64 L, .int .i64 b, .slice a1 xs.length c1, .slice a2 ys.length c2] 26 → Blk w' gp #[.int .i64 pq, .bool pg, .bool px, .bool pc] 28 →
      (w'.cell? ⟨gs, 0, none⟩ = some (.int .i64 L) ∧ w'.cell? ⟨gs, 1, none⟩ = some (.int .i64 b) ∧ w'.cell? ⟨gs, 2, none⟩ = some (.slice a1 xs.length c1) ∧ w'.cell? ⟨gs, 3, none⟩ = some (.slice a2 ys.length c2)) ∧ (w'.cell? ⟨gp, 0, none⟩ = some (.int .i64 pq) ∧ w'.cell? ⟨gp, 1, none⟩ = some (.bool pg) ∧ w'.cell? ⟨gp, 2, none⟩ = some (.bool px) ∧ w'.cell? ⟨gp, 3, none⟩ = some (.bool pc))) := fun w' h1 h2 => ⟨h1.four.1, h2.four.1⟩
  have n0 : w.heap.size < gs ∧ w.heap.size + 1 < gs ∧ w.heap.size + 1 + 1 < gs ∧ w.heap.size < gp ∧ w.heap.size + 1 < gp ∧ w.heap.size + 1 + 1 < gp := by omega
  clear H0 H1 H2 V5 P5' c5w k5
  have K00 := KB.out _ HB5.out.2.1 HB5.out.2.2
  go_region_held3 (fun w' => (w'.cell? ⟨gs, 0, none⟩ = some (.int .i64 L) ∧ w'.cell? ⟨gs, 1, none⟩ = some (.int .i64 b) ∧ w'.cell? ⟨gs, 2, none⟩ = some (.slice a1 xs.length c1) ∧ w'.cell? ⟨gs, 3, none⟩ = some (.slice a2 ys.length c2)) ∧ (w'.cell? ⟨gp, 0, none⟩ = some (.int .i64 pq) ∧ w'.cell? ⟨gp, 1, none⟩ = some (.bool pg) ∧ w'.cell? ⟨gp, 2, none⟩ = some (.bool px) ∧ w'.cell? ⟨gp, 3, none⟩ = some (.bool pc)))
    (first | (with_reducible exact K00) | (with_reducible exact K0) | (with_reducible exact K1) | (with_reducible exact K2) | (with_reducible exact K3))
    ((go_at_call 27; refine HH.out.mono ?_; rintro e w6 ⟨t, f, q, rfl, hin6, hg6⟩; have HN6 : Hid (HeadIn _ _ _ _ _) := hin6; clear hin6; have V6 := HB5.out.2.1.grown hg6 (by intro e; have := Option.some.inj e; omega); have P6 := HB5.out.2.2.grown hg6 (by intro e; have := Option.some.inj e; omega); have Z6 := HB5.out.1.1.1.grown hg6 (by intro e; have := Option.some.inj e; omega); have Y6 := HB5.out.1.1.2.grown hg6 (by intro e; have := Option.some.inj e; omega); have X6 := HB5.out.1.2.grown hg6 (by intro e; have := Option.some.inj e; omega); obtain ⟨⟨r0, r1, r2, r3⟩, s0, s1, s2, s3⟩ := Z6.four; obtain ⟨⟨t0, t1, t2, t3⟩, u0, u1, u2, u3⟩ := Y6.four; obtain ⟨⟨v0, v1, v2⟩, o0, o1, o2⟩ := X6.three; have K0 := KB.out w6 V6 P6; have V7 := V6.other4 (k := w.heap.size) (by omega) (.int .i64 L) (.int .i64 b) (.slice a1 xs.length c1) (.slice a2 ys.length c2); have P7 := P6.other4 (k := w.heap.size) (by omega) (.int .i64 L) (.int .i64 b) (.slice a1 xs.length c1) (.slice a2 ys.length c2); have K1 := KB.out _ V7 P7; have V8 := V7.other4 (k := w.heap.size + 1) (by omega) (.int .i64 pq) (.bool pg) (.bool px) (.bool pc); have P8 := P7.other4 (k := w.heap.size + 1) (by omega) (.int .i64 pq) (.bool pg) (.bool px) (.bool pc); have K2 := KB.out _ V8 P8; have V9 := V8.other3 (k := w.heap.size + 1 + 1) (by omega) (.int .i64 t) (.int .i64 f) (.int .i64 q); have P9 := P8.other3 (k := w.heap.size + 1 + 1) (by omega) (.int .i64 t) (.int .i64 f) (.int .i64 q); have K3 := KB.out _ V9 P9; clear V7 P7 V8 P8 V9 P9))
  have R1 : Hid (Blk _ _ _ _) := ((Z6.fill4 (.int .i64 L) (.int .i64 b) (.slice a1 xs.length c1) (.slice a2 ys.length c2)).other4 (k := w.heap.size + 1) (by omega) (.int .i64 pq) (.bool pg) (.bool px) (.bool pc)).other3 (k := w.heap.size + 1 + 1) (by omega) (.int .i64 t) (.int .i64 f) (.int .i64 q)
  have R2 : Hid (Blk _ _ _ _) := ((Y6.other4 (k := w.heap.size) (by omega) (.int .i64 L) (.int .i64 b) (.slice a1 xs.length c1) (.slice a2 ys.length c2)).fill4 (.int .i64 pq) (.bool pg) (.bool px) (.bool pc)).other3 (k := w.heap.size + 1 + 1) (by omega) (.int .i64 t) (.int .i64 f) (.int .i64 q)
  have R3 : Hid (Blk _ _ _ _) := ((X6.other4 (k := w.heap.size) (by omega) (.int .i64 L) (.int .i64 b) (.slice a1 xs.length c1) (.slice a2 ys.length c2)).other4 (k := w.heap.size + 1) (by omega) (.int .i64 pq) (.bool pg) (.bool px) (.bool pc)).fill3 (.int .i64 t) (.int .i64 f) (.int .i64 q)
  have HI6 : Hid (Ints w6 a1 xs ∧ Ints w6 a2 ys) := ⟨HI5.out.1.1.grown hg6 (fun p hp => (HI5.out.1.2 p hp).1), HI5.out.2.1.grown hg6 (fun p hp => (HI5.out.2.2 p hp).1)⟩
  have hb6 : Below w.heap.size w w6 := hb5.trans (below_of_grown hg6 (B := w.heap.size) hb5.size (fun k hk => by have := Option.some.inj hk; omega))
  clear K00 K0 K1 K2 K3 V6 P6 Z6 Y6 X6 r0 r1 r2 r3 s0 s1 s2 s3 t0 t1 t2 t3 u0 u1 u2 u3 v0 v1 v2 o0 o1 o2 x0 x1 x2 x3 y0 y1 y2 y3 HB5 HH KB hg6
  have FF : Hid (Fr w6 (w.heap.size + 3) _) := ((((((((((Fr.refl w6 (w.heap.size + 3)).set 0 (.int .i64 L) (.inl (by omega)) (g := w.heap.size)).set 1 (.int .i64 b) (.inl (by omega)) (g := w.heap.size)).set 2 (.slice a1 xs.length c1) (.inl (by omega)) (g := w.heap.size)).set 3 (.slice a2 ys.length c2) (.inl (by omega)) (g := w.heap.size)).set 0 (.int .i64 pq) (.inl (by omega)) (g := w.heap.size + 1)).set 1 (.bool pg) (.inl (by omega)) (g := w.heap.size + 1)).set 2 (.bool px) (.inl (by omega)) (g := w.heap.size + 1)).set 3 (.bool pc) (.inl (by omega)) (g := w.heap.size + 1)).set 0 (.int .i64 t) (.inl (by omega)) (g := w.heap.size + 1 + 1)).set 1 (.int .i64 f) (.inl (by omega)) (g := w.heap.size + 1 + 1)
  go_wp2
  (try simp only [Exit.inBlock, Exit.then])
  refine bodyPost_ret (results_cell_three rfl _ _ w.heap.size (w.heap.size + 1) (w.heap.size + 1 + 1) 26 28 30 _ _ _ _ _ _ rfl rfl rfl R1.out R2.out R3.out Tryd.underlying26 rfl (by kernel_rfl) Tryd.underlying28 rfl (by kernel_rfl) Tryd.underlying30 rfl (by kernel_rfl)) rfl ?_
  have F2 := FF.out.set 2 (.int .i64 q) (.inl (by omega)) (g := w.heap.size + 1 + 1)
  exact ⟨a1, a2, c1, c2, t, f, q, rfl, HN6.out, HI6.out.1.far F2 (fun p hp => (HI5.out.1.2 p hp).2), HI6.out.2.far F2 (fun p hp => (HI5.out.2.2 p hp).2), by go_grown⟩
end Go.Proofs.YtdokmojifkggjaaDoor
