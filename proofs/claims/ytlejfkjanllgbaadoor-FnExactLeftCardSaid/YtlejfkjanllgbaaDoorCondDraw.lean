/-
  A drawn condition is a right one: the walks of spec.l14Cond and spec.DrawCond.
-/
import Derived.Test.YtlejfkjanllgbaaDoorParDraw
import Derived.Test.YtlejfkjanllgbaaDoorCondKit
import Derived.Test.YtlejfkjanllgbaaDoorCodeVal
import Derived.Deep.RegionHeld3
namespace Go.Proofs.YtlejfkjanllgbaaDoor
open Go.RowKit
set_option linter.unusedVariables false
set_option maxRecDepth 20000

set_option maxHeartbeats 1600000 in
theorem l14Cond_any (g : Nat) (a : Option Addr) (zs : List Int) (B : Nat) (S : Nat × Int) (w : World) (hc : CodeV w B a zs) (hB : B ≤ g) (hcur : CurV w g a zs.length S) :
    Calls Tryd.prog 27 #[.pointer (some ⟨g, 0, none⟩)] w fun e w' => (∃ k q gg x, e = .returned (conV k q gg x) ∧ parB q gg x = true) ∧ w.grownBy w' (some g) := by
  have hgw := hcur.lt
  have CP : Hid (∀ w', CodeV w' B a zs → CurV w' g a zs.length S → Calls Tryd.prog 52 #[.pointer (some ⟨g, 0, none⟩)] w' fun e w'' => e = .returned (.agg #[.int .i64 (piQ zs S), .bool (piT zs S == 0), .bool (piT zs S == 1), .bool (piC zs S)]) ∧ CurTo w' w'' g a zs.length (piE zs S)) := fun w' h1 h2 => parRight_val g a zs B S w' h1 hB h2
  have CO : Hid (∀ w', CodeV w' B a zs → CurV w' g a zs.length (piE zs S) → Calls Tryd.prog 24 #[.pointer (some ⟨g, 0, none⟩), .int .i64 2] w' fun e w'' => e = .returned (.bool ((belF zs 2 (piE zs S)).1 == 0)) ∧ CurTo w' w'' g a zs.length (belF zs 2 (piE zs S)).2) := fun w' h1 h2 => once_val g a zs B 2 _ w' h1 hB h2 (by omega) (by omega)
  have HP : Hid (parB (piQ zs S) (piT zs S == 0) (piT zs S == 1) = true) := pi_ok zs S
  have HC : Hid (CodeV w B a zs) := hc
  clear hc
  generalize ((belF zs 2 (piE zs S)).1 == 0) = o at *
  generalize (belF zs 2 (piE zs S)).2 = S2 at *
  generalize piE zs S = SE at *
  generalize piQ zs S = q at *
  generalize (piT zs S == 0) = pg at *
  generalize (piT zs S == 1) = px at *
  generalize piC zs S = pc at *
  have HG : Hid (∀ w', w.grownBy w' (some g) → CodeV w' B a zs) := fun w' h => HC.out.below (below_of_grown h (by omega) (fun k hk => by cases hk; exact hB))
  have Z0 := Blk.new w #[.bool false, .int .i64 0, .bool false, .bool false] 27
  have g0 := World.grownBy_alloc w (.cells #[.bool false, .int .i64 0, .bool false, .bool false] 27) (some g)
  have k0 := hcur.kept (World.grownBy_alloc w (.cells #[.bool false, .int .i64 0, .bool false, .bool false] 27) none) (by simp)
  have gne : w.heap.size ≠ g := by omega
  clear hcur
  go_enter Tryd.func27, Tryd.ntmps27
  go_wp2_with fail
  refine (CP.out _ (HG.out _ g0) k0).mono ?_
  rintro e w1 ⟨rfl, hk⟩
  have Z1 := Z0.grew hk.2 (by intro e; cases e; exact gne rfl)
  have g1 := g0.trans hk.2
  have k1 := hk.1
  clear Z0 g0 k0 hk
  go_wp2_with fail
  generalize hV : World.alloc w1 _ = V
  have P2 : Blk V w1.heap.size #[.int .i64 q, .bool pg, .bool px, .bool pc] 69 := by rw [← hV]; exact Blk.new w1 _ _
  have c12 : Below w1.heap.size w1 V := by rw [← hV]; exact (Below.refl _ _).alloc (Nat.le_refl _) _
  clear hV
  have Z2 := Z1.below c12 Z1.lt
  have g2 := g1.trans (grown_of_below c12 (some g))
  have k2 := k1.kept (grown_of_below c12 none) (by simp)
  have zl : w.heap.size < w1.heap.size := Z1.lt
  have pne : w1.heap.size ≠ g := by omega
  have zpne : w.heap.size ≠ w1.heap.size := by omega
  generalize w1.heap.size = gp at *
  clear Z1 g1 k1 c12
  obtain ⟨⟨p0, p1, p2, p3⟩, _⟩ := P2.four
  have HK : Hid (∀ w5, V.grownBy w5 (some g) → (w5.cell? ⟨gp, 0, none⟩ = some (.int .i64 q) ∧ w5.cell? ⟨gp, 1, none⟩ = some (.bool pg) ∧ w5.cell? ⟨gp, 2, none⟩ = some (.bool px) ∧ w5.cell? ⟨gp, 3, none⟩ = some (.bool pc)) ∧ Blk w5 w.heap.size #[.bool false, .int .i64 0, .bool false, .bool false] 27) := fun w5 h => ⟨(P2.grew h (by intro e; cases e; exact pne rfl)).four.1, Z2.grew h (by intro e; cases e; exact gne rfl)⟩
  clear P2 Z2
  have gd : V.grownBy V.drew (some g) := ⟨rfl, rfl, rfl, Nat.le_refl _, fun _ _ _ => rfl⟩
  have kd : CurV V.drew g a zs.length SE := k2
  go_region_held3 (fun w' => w'.cell? ⟨gp, 0, none⟩ = some (.int .i64 q) ∧ w'.cell? ⟨gp, 1, none⟩ = some (.bool pg) ∧ w'.cell? ⟨gp, 2, none⟩ = some (.bool px) ∧ w'.cell? ⟨gp, 3, none⟩ = some (.bool pc))
    (first | (with_reducible exact hS) | go_keep)
    (first
      | (go_at_call 24; refine (CO.out _ (HG.out _ (g2.trans gd)) kd).mono ?_; rintro e w5 ⟨rfl, hk⟩; obtain ⟨hS, b5⟩ := HK.out w5 (gd.trans hk.2); have g5 := (g2.trans gd).trans hk.2; have k5 := hk.1; obtain ⟨⟨y0, y1, y2, y3⟩, n0, n1, n2, n3⟩ := b5.four; clear hk))
  all_goals
    have F : Hid _ := fill_cur k5 g5 b5 hgw (.bool o) (.int .i64 q) (.bool pg) (.bool px)
    clear k5 g5 b5 y0 y1 y2 y3 n0 n1 n2 n3
    go_wp2
    (try simp only [Exit.inBlock, Exit.then])
    refine bodyPost_ret (results_cell_row rfl _ _ w.heap.size 27 _ (0, 0) _ rfl F.out.1 Tryd.underlying27 rfl (by kernel_rfl)) rfl ?_
    exact ⟨⟨o, q, pg, px, rfl, HP.out⟩, F.out.2.2⟩

set_option maxHeartbeats 1600000 in
theorem drawCond_any (a : Option Addr) (cap B : Nat) (zs : List Int) (w : World) (hc : CodeV w B a zs) (hB : B ≤ w.heap.size) :
    Calls Tryd.prog 9 #[.slice a zs.length cap] w fun e w' => (∃ k q g x, e = .returned (conV k q g x) ∧ parB q g x = true) ∧ Below w.heap.size w w' := by
  have Z0 := Blk.new w #[.bool false, .int .i64 0, .bool false, .bool false] 27
  have hb0 := (Below.refl w.heap.size w).alloc (Nat.le_refl _) (.cells #[.bool false, .int .i64 0, .bool false, .bool false] 27)
  have HC : Hid (∀ w', Below w.heap.size w w' → CodeV w' B a zs) := fun w' h => hc.below (h.mono hB)
  clear hc
  go_enter Tryd.func9, Tryd.ntmps9
  go_wp2_with fail
  generalize World.alloc w _ = W at *
  have hbs := hb0.size
  refine (new_val a cap B zs W (HC.out W hb0) (by omega)).mono ?_
  rintro e w1 ⟨rfl, k1, hc1⟩
  have hb1 := hb0.trans (hc1.mono hbs)
  have Z1 := Z0.below hc1 Z0.lt
  have zne : w.heap.size ≠ W.heap.size := by have := Z0.lt; omega
  clear Z0
  go_wp2_with fail
  refine (l14Cond_any W.heap.size a zs B (newF zs) w1 (HC.out w1 hb1) (by omega) k1).mono ?_
  rintro e w2 ⟨⟨k, q, g, x, rfl, hp⟩, hg⟩
  have Z2 := Z1.grew hg (by intro e; exact zne (Option.some.inj e))
  have hb2 : Below w.heap.size w w2 := hb1.grown hg hb1.size (fun j hj => by cases hj; exact hbs)
  have HP : Hid (parB q g x = true) := hp
  clear hg Z1 hb1 hc1 k1 hp
  obtain ⟨⟨y0, y1, y2, y3⟩, n0, n1, n2, n3⟩ := Z2.four
  have ZF : Hid (Blk _ _ _ _) := (((Z2.set 0 (.bool k) (by simp)).set 1 (.int .i64 q) (by simp)).set 2 (.bool g) (by simp)).set 3 (.bool x) (by simp)
  have BF : Hid (Below _ _ _) := (((hb2.setCell (p := ⟨w.heap.size, 0, none⟩) (Nat.le_refl _) (.bool k)).setCell (p := ⟨w.heap.size, 1, none⟩) (Nat.le_refl _) (.int .i64 q)).setCell (p := ⟨w.heap.size, 2, none⟩) (Nat.le_refl _) (.bool g)).setCell (p := ⟨w.heap.size, 3, none⟩) (Nat.le_refl _) (.bool x)
  clear Z2 hb2
  go_wp2
  (try simp only [Exit.inBlock, Exit.then])
  refine bodyPost_ret (results_cell_row rfl _ _ w.heap.size 27 _ (0, 0) _ rfl ZF.out Tryd.underlying27 rfl (by kernel_rfl)) rfl ?_
  exact ⟨⟨k, q, g, x, rfl, HP.out⟩, BF.out⟩
end Go.Proofs.YtlejfkjanllgbaaDoor
