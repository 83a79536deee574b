/-
  A drawn par with its values: the walk of spec.l05ParRight.
-/
import Derived.Test.YtlejfkjanllgbaaDoorDrawVal
import Derived.Test.YtlejfkjanllgbaaDoorSetMath
import Derived.Test.YtlejfkjanllgbaaDoorSqKit
import Derived.Test.YtlejfkjanllgbaaDoorIntAll
import Derived.BigRegion
namespace Go.Proofs.YtlejfkjanllgbaaDoor
open Go.RowKit
set_option linter.unusedVariables false
set_option maxRecDepth 20000

theorem grown_setP (w : World) (g j : Nat) (v : Value) : w.grownBy (w.setCell ⟨g, j, none⟩ v) (some g) :=
  ⟨rfl, rfl, rfl, by simp, fun k hk hne => Below.heap_setCell w ⟨g, j, none⟩ v k (fun e => hne (by rw [e]))⟩
theorem CurTo.trans {w w1 w2 : World} {g : Nat} {a : Option Addr} {len : Nat} {S S' : Nat × Int} (h : CurTo w w1 g a len S) (k : CurTo w1 w2 g a len S') : CurTo w w2 g a len S' := ⟨k.1, h.2.trans k.2⟩
theorem CurTo.kept {w w1 w2 : World} {g : Nat} {a : Option Addr} {len : Nat} {S : Nat × Int} (h : CurTo w w1 g a len S) (k : Below w1.heap.size w1 w2) : CurTo w w2 g a len S := ⟨h.1.kept (grown_of_below k none) (by simp), h.2.trans (grown_of_below k _)⟩

theorem fill_cur {w w5 : World} {g len : Nat} {a : Option Addr} {S : Nat × Int} {t : TypeId} {z0 z1 z2 z3 : Value} (hk : CurV w5 g a len S) (hg : w.grownBy w5 (some g)) (hz : Blk w5 w.heap.size #[z0, z1, z2, z3] t) (hl : g < w.heap.size) (v0 v1 v2 v3 : Value) :
    Blk ((((w5.setCell ⟨w.heap.size, 0, none⟩ v0).setCell ⟨w.heap.size, 1, none⟩ v1).setCell ⟨w.heap.size, 2, none⟩ v2).setCell ⟨w.heap.size, 3, none⟩ v3) w.heap.size #[v0, v1, v2, v3] t ∧ CurTo w ((((w5.setCell ⟨w.heap.size, 0, none⟩ v0).setCell ⟨w.heap.size, 1, none⟩ v1).setCell ⟨w.heap.size, 2, none⟩ v2).setCell ⟨w.heap.size, 3, none⟩ v3) g a len S := by
  have ne : some g ≠ some w.heap.size := by intro e; cases e; omega
  have st : ∀ k, some w.heap.size = some k → w.heap.size ≤ k ∨ some g = some k := fun k hk => by cases hk; exact .inl (Nat.le_refl _)
  exact ⟨(((hz.set 0 v0 (by simp)).set 1 v1 (by simp)).set 2 v2 (by simp)).set 3 v3 (by simp),
    (((hk.kept (grown_setP _ _ _ _) ne).kept (grown_setP _ _ _ _) ne).kept (grown_setP _ _ _ _) ne).kept (grown_setP _ _ _ _) ne,
    (((hg.andThen (grown_setP _ _ _ _) st).andThen (grown_setP _ _ _ _) st).andThen (grown_setP _ _ _ _) st).andThen (grown_setP _ _ _ _) st⟩
theorem set_cur {w w4 : World} {g len gv : Nat} {a : Option Addr} {S : Nat × Int} {t : TypeId} {zs : Array Value} (hk : CurV w4 g a len S) (hg : w.grownBy w4 (some g)) (hz : Blk w4 w.heap.size zs t) (h1 : w.heap.size < gv) (h2 : g < gv) (j : Nat) (v : Value) :
    CurV (w4.setCell ⟨gv, j, none⟩ v) g a len S ∧ w.grownBy (w4.setCell ⟨gv, j, none⟩ v) (some g) ∧ Blk (w4.setCell ⟨gv, j, none⟩ v) w.heap.size zs t :=
  ⟨hk.kept (grown_setP _ _ _ _) (by intro e; cases e; omega), hg.andThen (grown_setP _ _ _ _) (fun k hk => by cases hk; exact .inl (by omega)), hz.other _ _ (by show w.heap.size ≠ gv; omega)⟩
/-- A drawn par: its numbers. -/
def piQ (zs : List Int) (S : Nat × Int) : Int := (belF zs 41 S).1
def piC (zs : List Int) (S : Nat × Int) : Bool := !((belF zs 4 (belF zs 41 S).2).1 == 0)
def piT (zs : List Int) (S : Nat × Int) : Int := (belF zs 3 (belF zs 4 (belF zs 41 S).2).2).1
def piE (zs : List Int) (S : Nat × Int) : Nat × Int := (belF zs 3 (belF zs 4 (belF zs 41 S).2).2).2
theorem pi_ok (zs : List Int) (S : Nat × Int) : parB (piQ zs S) (piT zs S == 0) (piT zs S == 1) = true := by
  obtain ⟨b0, b1⟩ := belF_bd zs 41 S (by omega)
  have h : (piT zs S == 0 && piT zs S == 1) = false := by
    by_cases h0 : piT zs S = 0
    · simp [h0]
    · simp [h0]
  unfold parB
  rw [h]
  unfold piQ
  simp; omega

set_option maxHeartbeats 1600000 in
theorem parRight_val (g : Nat) (a : Option Addr) (zs : List Int) (B : Nat) (S : Nat × Int) (w : World) (hc : CodeV w B a zs) (hB : B ≤ g) (hcur : CurV w g a zs.length S) :
    Calls Tryd.prog 52 #[.pointer (some ⟨g, 0, none⟩)] w fun e w' => e = .returned (.agg #[.int .i64 (piQ zs S), .bool (piT zs S == 0), .bool (piT zs S == 1), .bool (piC zs S)]) ∧ CurTo w w' g a zs.length (piE zs S) := by
  have hgw := hcur.lt
  obtain ⟨t0, t1⟩ : 0 ≤ piT zs S ∧ piT zs S < 3 := belF_bd zs 3 _ (by omega)
  have CB : Hid (∀ w', CodeV w' B a zs → CurV w' g a zs.length S → Calls Tryd.prog 25 #[.pointer (some ⟨g, 0, none⟩), .int .i64 41] w' fun e w'' => e = .returned (.int .i64 (piQ zs S)) ∧ CurTo w' w'' g a zs.length (belF zs 41 S).2) := fun w' h1 h2 => below_val g a zs B 41 S w' h1 hB h2 (by omega) (by omega)
  have CO : Hid (∀ w', CodeV w' B a zs → CurV w' g a zs.length (belF zs 41 S).2 → Calls Tryd.prog 24 #[.pointer (some ⟨g, 0, none⟩), .int .i64 4] w' fun e w'' => e = .returned (.bool ((belF zs 4 (belF zs 41 S).2).1 == 0)) ∧ CurTo w' w'' g a zs.length (belF zs 4 (belF zs 41 S).2).2) := fun w' h1 h2 => once_val g a zs B 4 _ w' h1 hB h2 (by omega) (by omega)
  have CT : Hid (∀ w', CodeV w' B a zs → CurV w' g a zs.length (belF zs 4 (belF zs 41 S).2).2 → Calls Tryd.prog 25 #[.pointer (some ⟨g, 0, none⟩), .int .i64 3] w' fun e w'' => e = .returned (.int .i64 (piT zs S)) ∧ CurTo w' w'' g a zs.length (piE zs S)) := fun w' h1 h2 => below_val g a zs B 3 _ w' h1 hB h2 (by omega) (by omega)
  have HPC : Hid (piC zs S = !((belF zs 4 (belF zs 41 S).2).1 == 0)) := rfl
  have HC : Hid (CodeV w B a zs) := hc
  clear hc
  generalize piC zs S = pc at *
  generalize piE zs S = SE at *
  generalize piT zs S = tt at *
  generalize piQ zs S = q at *
  generalize (belF zs 4 (belF zs 41 S).2).2 = S2 at *
  generalize ((belF zs 4 (belF zs 41 S).2).1 == 0) = o at *
  generalize (belF zs 41 S).2 = S1 at *
  have HG : Hid (∀ w', w.grownBy w' (some g) → CodeV w' B a zs) := fun w' h => HC.out.below (below_of_grown h (by omega) (fun k hk => by cases hk; exact hB))
  have Z0 := Blk.new w #[.int .i64 0, .bool false, .bool false, .bool false] 69
  have g0 := World.grownBy_alloc w (.cells #[.int .i64 0, .bool false, .bool false, .bool false] 69) (some g)
  have k0 := hcur.kept (World.grownBy_alloc w (.cells #[.int .i64 0, .bool false, .bool false, .bool false] 69) none) (by simp)
  have gne : w.heap.size ≠ g := by omega
  clear hcur
  go_enter Tryd.func52, Tryd.ntmps52
  go_wp2_with fail
  refine (CB.out _ (HG.out _ g0) k0).mono ?_
  rintro e w1 ⟨rfl, hk⟩
  have Z1 := Z0.grew hk.2 (by intro e; cases e; exact gne rfl)
  have g1 := g0.trans hk.2
  have k1 := hk.1
  clear Z0 g0 k0 hk
  go_wp2_with fail
  refine (CO.out w1 (HG.out _ g1) k1).mono ?_
  rintro e w2 ⟨rfl, hk⟩
  have Z2 := Z1.grew hk.2 (by intro e; cases e; exact gne rfl)
  have g2 := g1.trans hk.2
  have k2 := hk.1
  clear Z1 g1 k1 hk
  go_wp2_with fail
  rw [← HPC.out]
  have V3 := Blk.new w2 #[.int .i64 q, .bool false, .bool false, .bool pc] 69
  have c23 := (Below.refl w2.heap.size w2).alloc (Nat.le_refl _) (.cells #[.int .i64 q, .bool false, .bool false, .bool pc] 69)
  have Z3 := Z2.below c23 Z2.lt
  have g3 := g2.trans (grown_of_below c23 (some g))
  have k3 := k2.kept (grown_of_below c23 none) (by simp)
  have zl : w.heap.size < w2.heap.size := Z2.lt
  have gl : g < w2.heap.size := k2.lt
  clear Z2 g2 k2 c23
  generalize w2.alloc _ = w3 at *
  generalize w2.heap.size = gv at *
  refine (CT.out w3 (HG.out _ g3) k3).mono ?_
  rintro e w4 ⟨rfl, hk⟩
  have Z4 := Z3.grew hk.2 (by intro e; cases e; exact gne rfl)
  have V4 := V3.grew hk.2 (by intro e; cases e; omega)
  have g4 := g3.trans hk.2
  have k4 := hk.1
  clear Z3 V3 g3 k3 hk
  obtain ⟨⟨z0, z1, z2, z3⟩, q0, q1, q2, q3⟩ := Z4.four
  obtain ⟨⟨x0, x1, x2, x3⟩, p0, p1, p2, p3⟩ := V4.four
  have gvl := V4.lt
  have HK : Hid (CurV w4 g a zs.length SE ∧ w.grownBy w4 (some g)) := ⟨k4, g4⟩
  have HZ : Hid (Blk w4 w.heap.size #[.int .i64 0, .bool false, .bool false, .bool false] 69) := Z4
  clear Z4 V4 k4 g4
  rcases (show tt = 0 ∨ tt = 1 ∨ tt = 2 by omega) with rfl | rfl | rfl
  · have F0 : Hid _ := set_cur HK.out.1 HK.out.2 HZ.out zl gl 1 (.bool true)
    have F1 : Hid _ := fill_cur F0.out.1 F0.out.2.1 F0.out.2.2 hgw (.int .i64 q) (.bool true) (.bool false) (.bool pc)
    go_wp2
    (try simp only [Exit.inBlock, Exit.then])
    refine bodyPost_ret (results_cell_row rfl _ _ w.heap.size 69 _ (0, 0) _ rfl F1.out.1 Tryd.underlying69 rfl (by kernel_rfl)) rfl ?_
    exact ⟨rfl, F1.out.2⟩
  · have F0 : Hid _ := set_cur HK.out.1 HK.out.2 HZ.out zl gl 2 (.bool true)
    have F1 : Hid _ := fill_cur F0.out.1 F0.out.2.1 F0.out.2.2 hgw (.int .i64 q) (.bool false) (.bool true) (.bool pc)
    go_wp2
    (try simp only [Exit.inBlock, Exit.then])
    refine bodyPost_ret (results_cell_row rfl _ _ w.heap.size 69 _ (0, 0) _ rfl F1.out.1 Tryd.underlying69 rfl (by kernel_rfl)) rfl ?_
    exact ⟨rfl, F1.out.2⟩
  · have F1 : Hid _ := fill_cur HK.out.1 HK.out.2 HZ.out hgw (.int .i64 q) (.bool false) (.bool false) (.bool pc)
    go_wp2
    (try simp only [Exit.inBlock, Exit.then])
    refine bodyPost_ret (results_cell_row rfl _ _ w.heap.size 69 _ (0, 0) _ rfl F1.out.1 Tryd.underlying69 rfl (by kernel_rfl)) rfl ?_
    exact ⟨rfl, F1.out.2⟩
end Go.Proofs.YtlejfkjanllgbaaDoor
