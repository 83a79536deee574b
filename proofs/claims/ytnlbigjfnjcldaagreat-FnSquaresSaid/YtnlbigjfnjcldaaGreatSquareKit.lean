/-
  Squares in the exact laws: the walks of laws.szSquare, laws.toSquare and laws.eqSquare.
-/
import Derived.Test.YtnlbigjfnjcldaaGreatIntAll
import Derived.Test.YtnlbigjfnjcldaaGreatBlkKit
namespace Go.Proofs.YtnlbigjfnjcldaaGreat
open Go.RowKit
set_option linter.unusedVariables false
set_option maxRecDepth 20000

/-- A square, as a value. -/
abbrev sqV (kd md dx dy : Int) (a : Option Addr) (n c : Nat) : Value := .agg #[.int .i64 kd, .int .i64 md, .int .i64 dx, .int .i64 dy, .slice a n c]
/-- A square's cells. -/
abbrev sqC (kd md dx dy : Int) (a : Option Addr) (n c : Nat) : Array Value := #[.int .i64 kd, .int .i64 md, .int .i64 dx, .int .i64 dy, .slice a n c]
/-- What a walk asks of a block of five cells. -/
theorem Blk.five {w : World} {g : Nat} {v0 v1 v2 v3 v4 : Value} {t : TypeId} (h : Blk w g #[v0, v1, v2, v3, v4] t) :
    (w.cell? ⟨g, 0, none⟩ = some v0 ∧ w.cell? ⟨g, 1, none⟩ = some v1 ∧ w.cell? ⟨g, 2, none⟩ = some v2 ∧ w.cell? ⟨g, 3, none⟩ = some v3 ∧ w.cell? ⟨g, 4, none⟩ = some v4) ∧
      (w.frozen? ⟨g, 0, none⟩ = false ∧ w.frozen? ⟨g, 1, none⟩ = false ∧ w.frozen? ⟨g, 2, none⟩ = false ∧ w.frozen? ⟨g, 3, none⟩ = false ∧ w.frozen? ⟨g, 4, none⟩ = false) :=
  ⟨⟨h.cell 0, h.cell 1, h.cell 2, h.cell 3, h.cell 4⟩, h.frozen 0, h.frozen 1, h.frozen 2, h.frozen 3, h.frozen 4⟩

set_option maxHeartbeats 800000 in
theorem szSquare_any (kd md dx dy : Int) (a : Option Addr) (n c : Nat) (L : Int) (w : World) (h1 : n ≤ maxLen) (l0 : 0 ≤ L) (l1 : L ≤ 1048576) :
    Calls Tryz.prog 15 #[sqV kd md dx dy a n c, .int .i64 L] w fun e w' => ∃ r : Int, e = .returned (.int .i64 r) ∧ (r < 0 ∨ (0 ≤ r ∧ (n : Int) ≤ 1048576)) ∧ Below w.heap.size w w' := by
  have hbA := (Below.refl w.heap.size w).alloc (Nat.le_refl _) (.cells (sqC kd md dx dy a n c) 40)
  go_enter Tryz.func15, Tryz.ntmps15
  go_wp2_with fail
  refine (szIntS_any _ _ _ _ _ h1 l0 l1).mono ?_
  rintro e w1 ⟨rfl | ⟨r, rfl, r0, r1, hn1⟩, hw⟩
  · subst w1
    go_wp2
    go_ret
    exact ⟨_, rfl, .inl (by decide), hbA⟩
  · subst w1
    go_wp2
    go_ret
    exact ⟨_, rfl, .inr ⟨r0, hn1⟩, hbA⟩

set_option maxHeartbeats 800000 in
theorem toSquare_any (kd md dx dy : Int) (a : Option Addr) (c : Nat) (xs : List Int) (w : World) (h1 : Ints w a xs) (hl1 : xs.length ≤ 1048576) :
    Calls Tryz.prog 17 #[sqV kd md dx dy a xs.length c] w fun e w' => ∃ a3 c3, e = .returned (sqV kd md dx dy a3 xs.length c3) ∧ xs.length ≤ c3 ∧ Ints w' a3 xs ∧ (∀ p, a3 = some p → w.heap.size ≤ p.block) ∧ Below w.heap.size w w' := by
  have H1 : Hid (Ints w a xs) := h1
  clear h1
  go_enter Tryz.func17, Tryz.ntmps17
  go_wp2_with fail
  generalize hW : World.alloc (World.alloc (World.alloc w _) _) _ = W
  have hs : W.heap.size = w.heap.size + 3 := by rw [← hW]; simp
  have B0 : Blk W w.heap.size (sqC kd md dx dy a xs.length c) 40 := by rw [← hW]; exact ((Blk.new w _ _).alloc _).alloc _
  have B1 : Blk W (w.heap.size + 1) (sqC 0 0 0 0 none 0 0) 34 := by rw [← hW]; exact (Blk.new' _ _ (by simp)).alloc _
  have B2 : Blk W (w.heap.size + 1 + 1) (sqC kd md dx dy none 0 0) 34 := by rw [← hW]; exact Blk.new' _ _ (by simp)
  have hb0 : Below w.heap.size w W := by rw [← hW]; exact (((Below.refl _ _).alloc (Nat.le_refl _) _).alloc (by simp) _).alloc (by simp; omega) _
  clear hW
  refine (toIntS_any _ _ _ W (H1.out.below hb0 (Nat.le_refl _)) hl1).mono ?_
  rintro e w1 ⟨v1, rfl, ho1, hb1⟩
  have hcap := ho1
  obtain ⟨a3, c3, rfl, i3, j3⟩ := ints_of_owns ho1
  have HI3 : Hid ((Ints w1 a3 xs ∧ ∀ p, a3 = some p → w.heap.size + 3 ≤ p.block) ∧ xs.length ≤ c3) := ⟨⟨i3, fun p hp => by have := j3 p hp; omega⟩, owned_cap hcap⟩
  clear ho1 i3 j3 hcap
  have C0 := B0.below hb1 (by omega)
  have C1 := B1.below hb1 (by omega)
  have C2 := B2.below hb1 (by omega)
  have hb1' := hb0.trans (hb1.mono (by omega))
  have hs1 : w.heap.size + 3 ≤ w1.heap.size := by have := hb1.size; omega
  clear B0 B1 B2 hb0 hb1 hs
  obtain ⟨⟨x0, x1, x2, x3, x4⟩, e0, e1, e2, e3, e4⟩ := C1.five
  obtain ⟨⟨y0, y1, y2, y3, y4⟩, f0, f1, f2, f3, f4⟩ := C2.five
  have F1 : Blk ((((((w1.setCell ⟨w.heap.size + 1 + 1, 4, none⟩ (.slice a3 xs.length c3)).setCell ⟨w.heap.size + 1, 0, none⟩ (.int .i64 kd)).setCell ⟨w.heap.size + 1, 1, none⟩ (.int .i64 md)).setCell ⟨w.heap.size + 1, 2, none⟩ (.int .i64 dx)).setCell ⟨w.heap.size + 1, 3, none⟩ (.int .i64 dy)).setCell ⟨w.heap.size + 1, 4, none⟩ (.slice a3 xs.length c3)) (w.heap.size + 1) (sqC kd md dx dy a3 xs.length c3) 34 :=
    ((((((C1.other ⟨w.heap.size + 1 + 1, 4, none⟩ (.slice a3 xs.length c3) (by simp)).set 0 (.int .i64 kd) (by simp)).set 1 (.int .i64 md) (by simp)).set 2 (.int .i64 dx) (by simp)).set 3 (.int .i64 dy) (by simp)).set 4 (.slice a3 xs.length c3) (by simp))
  have HF1 : Hid (Blk _ _ _ _) := F1
  clear C0 C1 C2 F1
  go_wp2
  (try simp only [Exit.inBlock, Exit.then])
  refine bodyPost_ret (results_cell_row rfl _ _ (w.heap.size + 1) 34 _ (0, 0) _ rfl HF1.out Tryz.underlying34 rfl (by kernel_rfl)) rfl ?_
  refine ⟨a3, c3, rfl, HI3.out.2, ?_, fun p hp => by have := HI3.out.1.2 p hp; omega, ?_⟩
  · have h := HI3.out.1.2
    refine (((((HI3.out.1.1.set _ _ ?_).set _ _ ?_).set _ _ ?_).set _ _ ?_).set _ _ ?_).set _ _ ?_
    all_goals exact fun p hp => by have := h p hp; simp; omega
  · go_grown

set_option maxHeartbeats 800000 in
theorem eqSquare_any (kd md dx dy : Int) (a1 a2 : Option Addr) (c1 c2 : Nat) (xs : List Int) (w : World) (h1 : Ints w a1 xs) (h2 : Ints w a2 xs) (hl1 : xs.length ≤ 1048576) :
    Calls Tryz.prog 19 #[sqV kd md dx dy a1 xs.length c1, sqV kd md dx dy a2 xs.length c2] w fun e w' => e = .returned (.bool true) ∧ Below w.heap.size w w' := by
  have H1 : Hid (Ints w a1 xs ∧ Ints w a2 xs) := ⟨h1, h2⟩
  clear h1 h2
  go_enter Tryz.func19, Tryz.ntmps19
  go_wp2_with fail
  generalize hW : World.alloc (World.alloc w _) _ = W
  have hb0 : Below w.heap.size w W := by rw [← hW]; exact ((Below.refl _ _).alloc (Nat.le_refl _) _).alloc (by simp) _
  clear hW
  refine (eqIntS_any _ _ _ _ _ W (H1.out.1.below hb0 (Nat.le_refl _)) (H1.out.2.below hb0 (Nat.le_refl _)) (by omega)).mono ?_
  rintro e w1 ⟨rfl, hb1⟩
  have hb2 := hb0.trans (hb1.mono hb0.size)
  clear hb0 hb1
  go_wp2
  go_ret
  exact ⟨rfl, hb2⟩
end Go.Proofs.YtnlbigjfnjcldaaGreat
