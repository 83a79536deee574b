/-
  The walk of laws.FnExactHeadRow.
-/
import Derived.Test.YtdokmojifkggjaaDoorHeadArg
import Derived.Test.YtdokmojifkggjaaDoorHeadLaws
namespace Go.Proofs.YtdokmojifkggjaaDoor
open Go.RowKit
set_option linter.unusedVariables false
set_option maxRecDepth 20000

set_option maxHeartbeats 3200000 in
theorem fnExactHeadRow_walk (l b : Int) (a1 a2 : Option Addr) (xs ys : List Int) (c1 c2 : Nat) (q : Int) (g x c : Bool) (t f k : Int) (w : World) (hE : ErrT w) (h1 : Ints w a1 xs) (h2 : Ints w a2 ys) (m1 : xs.length ≤ maxLen) (m2 : ys.length ≤ maxLen) :
    Calls Tryd.prog 5 #[.agg #[.int .i64 l, .int .i64 b, .slice a1 xs.length c1, .slice a2 ys.length c2], .agg #[.int .i64 q, .bool g, .bool x, .bool c], .agg #[.int .i64 t, .int .i64 f, .int .i64 k]] w fun e w' => e = .returned (.bool true) ∧ Below w.heap.size w w' := by
  obtain ⟨r, y, CS, CI⟩ : ∃ (r : ByteArray) (y : Bool), Hid (∀ w' e1 e2 d1 d2, SetIn w' e1 e2 xs ys → Calls Tryd.prog 21 #[.agg #[.int .i64 l, .int .i64 b, .slice e1 xs.length d1, .slice e2 ys.length d2], .agg #[.int .i64 q, .bool g, .bool x, .bool c], .agg #[.int .i64 t, .int .i64 f, .int .i64 k]] w' fun e w'' => e = .returned (.tuple #[.string r, .bool y]) ∧ Below w'.heap.size w' w'') ∧
      Hid (∀ w' e1 e2 d1 d2, SetIn w' e1 e2 xs ys → Calls Tryd.prog 10 #[.agg #[.int .i64 l, .int .i64 b, .slice e1 xs.length d1, .slice e2 ys.length d2], .agg #[.int .i64 q, .bool g, .bool x, .bool c], .agg #[.int .i64 t, .int .i64 f, .int .i64 k]] w' fun e w'' => e = .returned (.tuple #[.string r, .bool y]) ∧ Below w'.heap.size w' w'') := by
    exact fnExactHeadRow_both l b xs ys q g x c t f k
  have H : Hid (Ints w a1 xs ∧ Ints w a2 ys) := ⟨h1, h2⟩
  have E : Hid (∀ w', Below w.heap.size w w' → ErrT w') := fun w' hb => hE.below hb (Nat.le_refl _)
  have I : Hid (∀ w', Below w.heap.size w w' → Ints w' a1 xs ∧ Ints w' a2 ys) := fun w' hb => ⟨h1.below hb (Nat.le_refl _), h2.below hb (Nat.le_refl _)⟩
  have M : Hid (xs.length ≤ maxLen ∧ ys.length ≤ maxLen) := ⟨m1, m2⟩
  have KB : Hid (∀ W' : World, (Blk W' w.heap.size #[.int .i64 l, .int .i64 b, .slice a1 xs.length c1, .slice a2 ys.length c2] 42 ∧ Blk W' (w.heap.size + 1) #[.int .i64 q, .bool g, .bool x, .bool c] 43 ∧ Blk W' (w.heap.size + 1 + 1) #[.int .i64 t, .int .i64 f, .int .i64 k] 44) → (W'.cell? ⟨w.heap.size, 0, none⟩ = some (.int .i64 l) ∧ W'.cell? ⟨w.heap.size, 1, none⟩ = some (.int .i64 b) ∧ W'.cell? ⟨w.heap.size, 2, none⟩ = some (.slice a1 xs.length c1) ∧ W'.cell? ⟨w.heap.size, 3, none⟩ = some (.slice a2 ys.length c2)) ∧ (W'.cell? ⟨w.heap.size + 1, 0, none⟩ = some (.int .i64 q) ∧ W'.cell? ⟨w.heap.size + 1, 1, none⟩ = some (.bool g) ∧ W'.cell? ⟨w.heap.size + 1, 2, none⟩ = some (.bool x) ∧ W'.cell? ⟨w.heap.size + 1, 3, none⟩ = some (.bool c)) ∧ (W'.cell? ⟨w.heap.size + 1 + 1, 0, none⟩ = some (.int .i64 t) ∧ W'.cell? ⟨w.heap.size + 1 + 1, 1, none⟩ = some (.int .i64 f) ∧ W'.cell? ⟨w.heap.size + 1 + 1, 2, none⟩ = some (.int .i64 k))) := fun W' h => ⟨h.1.four.1, h.2.1.four.1, h.2.2.three.1⟩
  have BB : Hid (∀ W' W'' : World, (Blk W' w.heap.size #[.int .i64 l, .int .i64 b, .slice a1 xs.length c1, .slice a2 ys.length c2] 42 ∧ Blk W' (w.heap.size + 1) #[.int .i64 q, .bool g, .bool x, .bool c] 43 ∧ Blk W' (w.heap.size + 1 + 1) #[.int .i64 t, .int .i64 f, .int .i64 k] 44) → Below W'.heap.size W' W'' → (Blk W'' w.heap.size #[.int .i64 l, .int .i64 b, .slice a1 xs.length c1, .slice a2 ys.length c2] 42 ∧ Blk W'' (w.heap.size + 1) #[.int .i64 q, .bool g, .bool x, .bool c] 43 ∧ Blk W'' (w.heap.size + 1 + 1) #[.int .i64 t, .int .i64 f, .int .i64 k] 44)) := fun W' W'' h hb => ⟨h.1.below hb h.1.lt, h.2.1.below hb h.2.1.lt, h.2.2.below hb h.2.2.lt⟩
  clear h1 h2 hE
  go_enter Tryd.func5, Tryd.ntmps5
  go_wp2_with fail
  generalize hW : World.alloc (World.alloc (World.alloc w _) _) _ = W
  have hs : W.heap.size = w.heap.size + 3 := by rw [← hW]; simp
  have B0 : (Blk W w.heap.size #[.int .i64 l, .int .i64 b, .slice a1 xs.length c1, .slice a2 ys.length c2] 42 ∧ Blk W (w.heap.size + 1) #[.int .i64 q, .bool g, .bool x, .bool c] 43 ∧ Blk W (w.heap.size + 1 + 1) #[.int .i64 t, .int .i64 f, .int .i64 k] 44) := by rw [← hW]; exact ⟨((Blk.new w _ _).alloc _).alloc _, (Blk.new' _ _ (by simp)).alloc _, Blk.new' _ _ (by simp)⟩
  have hb0 : Below w.heap.size w W := by rw [← hW]; exact (((Below.refl _ _).alloc (Nat.le_refl _) _).alloc (by simp) _).alloc (by simp; omega) _
  clear hW
  refine (szSeq_any _ _ _ _ _ _ _ _ W m1 m2).mono ?_
  rintro e w1 ⟨r0, rfl, hr | ⟨hr, n1, n2⟩, hc⟩
  · have hb1 := hb0.trans (hc.mono hb0.size)
    clear hc
    go_wp2
    go_ret
    exact ⟨rfl, hb1⟩
  have hb1 := hb0.trans (hc.mono hb0.size)
  have B1 := BB.out _ _ B0 hc
  have g1 : W.heap.size ≤ w1.heap.size := hc.size
  clear hc hb0 B0
  have k1 : xs.length ≤ 1048576 := by omega
  have k2 : ys.length ≤ 1048576 := by omega
  have B1D : (Blk w1.drew w.heap.size #[.int .i64 l, .int .i64 b, .slice a1 xs.length c1, .slice a2 ys.length c2] 42 ∧ Blk w1.drew (w.heap.size + 1) #[.int .i64 q, .bool g, .bool x, .bool c] 43 ∧ Blk w1.drew (w.heap.size + 1 + 1) #[.int .i64 t, .int .i64 f, .int .i64 k] 44) := B1
  have hb1D := hb1.drew
  have K00 := KB.out _ B1D
  clear B1 hb1
  go_wp2_with fail
  go_region_held3 (fun w' => (w'.cell? ⟨w.heap.size, 0, none⟩ = some (.int .i64 l) ∧ w'.cell? ⟨w.heap.size, 1, none⟩ = some (.int .i64 b) ∧ w'.cell? ⟨w.heap.size, 2, none⟩ = some (.slice a1 xs.length c1) ∧ w'.cell? ⟨w.heap.size, 3, none⟩ = some (.slice a2 ys.length c2)) ∧ (w'.cell? ⟨w.heap.size + 1, 0, none⟩ = some (.int .i64 q) ∧ w'.cell? ⟨w.heap.size + 1, 1, none⟩ = some (.bool g) ∧ w'.cell? ⟨w.heap.size + 1, 2, none⟩ = some (.bool x) ∧ w'.cell? ⟨w.heap.size + 1, 3, none⟩ = some (.bool c)) ∧ (w'.cell? ⟨w.heap.size + 1 + 1, 0, none⟩ = some (.int .i64 t) ∧ w'.cell? ⟨w.heap.size + 1 + 1, 1, none⟩ = some (.int .i64 f) ∧ w'.cell? ⟨w.heap.size + 1 + 1, 2, none⟩ = some (.int .i64 k)))
    (first | (with_reducible exact K00) | (with_reducible exact K01) | (with_reducible exact K02) | (with_reducible exact K03) | (with_reducible exact K04))
    (first
      | (go_at_call 17; refine (toSeq_any _ _ _ _ _ _ _ _ _ (I.out _ hb1D).1 (I.out _ hb1D).2 k1 k2).mono ?_; rintro e w2 ⟨u3, u4, d3, d4, rfl, i3, i4, hc2⟩; have hb2 := hb1D.trans (hc2.mono hb1D.size); have B2 := BB.out _ _ B1D hc2; have K01 := KB.out _ B2; have J2 : Hid (Ints w2 u3 xs ∧ Ints w2 u4 ys) := ⟨i3, i4⟩; clear i3 i4)
      | (go_at_call 18; refine (toPar_any _ _ _ _ _).mono ?_; rintro e w3 ⟨rfl, hc3⟩; have hb3 := hb2.trans (hc3.mono hb2.size); have B3 := BB.out _ _ B2 hc3; have K02 := KB.out _ B3; have J3 : Hid (Ints w3 u3 xs ∧ Ints w3 u4 ys) := ⟨J2.out.1.below hc3 (Nat.le_refl _), J2.out.2.below hc3 (Nat.le_refl _)⟩)
      | (go_at_call 19; refine (toHead_any _ _ _ _).mono ?_; rintro e w4 ⟨rfl, hc4⟩; have hb4 := hb3.trans (hc4.mono hb3.size); have B4 := BB.out _ _ B3 hc4; have K03 := KB.out _ B4; have J4 : Hid (Ints w4 u3 xs ∧ Ints w4 u4 ys) := ⟨J3.out.1.below hc4 (Nat.le_refl _), J3.out.2.below hc4 (Nat.le_refl _)⟩)
      | (go_at_call 21; refine (CS.out _ _ _ _ _ ⟨⟨J4.out.1, J4.out.2, E.out _ hb4⟩, M.out⟩).mono ?_; rintro e w5 ⟨rfl, hc5⟩; have hb5 := hb4.trans (hc5.mono hb4.size); have B5 := BB.out _ _ B4 hc5; have K04 := KB.out _ B5))
  clear K00 K01 K02 K03 K04
  clear B1D hb1D hc2 hb2 B2 J2 hc3 hb3 B3 J3 hc4 hb4 B4 J4 hc5 CS
  obtain ⟨⟨x0, x1, x2, x3⟩, ⟨y0, y1, y2, y3⟩, j0, j1, j2⟩ := KB.out _ B5
  go_wp2_with fail
  refine (toSeq_any _ _ _ _ _ _ _ _ w5 (I.out _ hb5).1 (I.out _ hb5).2 k1 k2).mono ?_
  rintro e w7 ⟨a3, a4, c3, c4, rfl, i3, i4, hc⟩
  have hb7 := hb5.trans (hc.mono hb5.size)
  have B7 := BB.out _ _ B5 hc
  have hg7 : w.heap.size < w7.heap.size := B7.1.lt
  have a7 := (Below.refl w7.heap.size w7).alloc (Nat.le_refl _) (.cells #[.int .i64 l, .int .i64 b, .slice a3 xs.length c3, .slice a4 ys.length c4] 26)
  have Y8 := Blk.new w7 #[.int .i64 l, .int .i64 b, .slice a3 xs.length c3, .slice a4 ys.length c4] 26
  have J8 : Hid (∀ w', Below w7.heap.size w7 w' → Ints w' a3 xs ∧ Ints w' a4 ys) := fun w' hb => ⟨i3.below hb (Nat.le_refl _), i4.below hb (Nat.le_refl _)⟩
  have hb8 := hb7.trans (a7.mono hb7.size)
  have B8 := BB.out _ _ B7 a7

  clear hc hb5 B5 hb7 B7 i3 i4 x0 x1 x2 x3 y0 y1 y2 y3 j0 j1 j2
  go_wp2_with fail
  generalize w7.alloc _ = V at *
  have KL : Hid (∀ W' : World, (Blk W' w.heap.size #[.int .i64 l, .int .i64 b, .slice a1 xs.length c1, .slice a2 ys.length c2] 42 ∧ Blk W' (w.heap.size + 1) #[.int .i64 q, .bool g, .bool x, .bool c] 43 ∧ Blk W' (w.heap.size + 1 + 1) #[.int .i64 t, .int .i64 f, .int .i64 k] 44) → Blk W' w7.heap.size #[.int .i64 l, .int .i64 b, .slice a3 xs.length c3, .slice a4 ys.length c4] 26 → ((W'.cell? ⟨w.heap.size, 0, none⟩ = some (.int .i64 l) ∧ W'.cell? ⟨w.heap.size, 1, none⟩ = some (.int .i64 b) ∧ W'.cell? ⟨w.heap.size, 2, none⟩ = some (.slice a1 xs.length c1) ∧ W'.cell? ⟨w.heap.size, 3, none⟩ = some (.slice a2 ys.length c2)) ∧ (W'.cell? ⟨w.heap.size + 1, 0, none⟩ = some (.int .i64 q) ∧ W'.cell? ⟨w.heap.size + 1, 1, none⟩ = some (.bool g) ∧ W'.cell? ⟨w.heap.size + 1, 2, none⟩ = some (.bool x) ∧ W'.cell? ⟨w.heap.size + 1, 3, none⟩ = some (.bool c)) ∧ (W'.cell? ⟨w.heap.size + 1 + 1, 0, none⟩ = some (.int .i64 t) ∧ W'.cell? ⟨w.heap.size + 1 + 1, 1, none⟩ = some (.int .i64 f) ∧ W'.cell? ⟨w.heap.size + 1 + 1, 2, none⟩ = some (.int .i64 k))) ∧ (W'.cell? ⟨w7.heap.size, 0, none⟩ = some (.int .i64 l) ∧ W'.cell? ⟨w7.heap.size, 1, none⟩ = some (.int .i64 b) ∧ W'.cell? ⟨w7.heap.size, 2, none⟩ = some (.slice a3 xs.length c3) ∧ W'.cell? ⟨w7.heap.size, 3, none⟩ = some (.slice a4 ys.length c4))) := fun W' h1 h2 => ⟨KB.out _ h1, h2.four.1⟩
  have B8D : (Blk V.drew w.heap.size #[.int .i64 l, .int .i64 b, .slice a1 xs.length c1, .slice a2 ys.length c2] 42 ∧ Blk V.drew (w.heap.size + 1) #[.int .i64 q, .bool g, .bool x, .bool c] 43 ∧ Blk V.drew (w.heap.size + 1 + 1) #[.int .i64 t, .int .i64 f, .int .i64 k] 44) := B8
  have Y8D := Y8.drew
  have hb8D := hb8.drew
  have a8D := a7.drew

  have K10 := KL.out _ B8D Y8D
  clear B8 Y8 hb8 a7
  go_region_held3 (fun w' => ((w'.cell? ⟨w.heap.size, 0, none⟩ = some (.int .i64 l) ∧ w'.cell? ⟨w.heap.size, 1, none⟩ = some (.int .i64 b) ∧ w'.cell? ⟨w.heap.size, 2, none⟩ = some (.slice a1 xs.length c1) ∧ w'.cell? ⟨w.heap.size, 3, none⟩ = some (.slice a2 ys.length c2)) ∧ (w'.cell? ⟨w.heap.size + 1, 0, none⟩ = some (.int .i64 q) ∧ w'.cell? ⟨w.heap.size + 1, 1, none⟩ = some (.bool g) ∧ w'.cell? ⟨w.heap.size + 1, 2, none⟩ = some (.bool x) ∧ w'.cell? ⟨w.heap.size + 1, 3, none⟩ = some (.bool c)) ∧ (w'.cell? ⟨w.heap.size + 1 + 1, 0, none⟩ = some (.int .i64 t) ∧ w'.cell? ⟨w.heap.size + 1 + 1, 1, none⟩ = some (.int .i64 f) ∧ w'.cell? ⟨w.heap.size + 1 + 1, 2, none⟩ = some (.int .i64 k))) ∧ (w'.cell? ⟨w7.heap.size, 0, none⟩ = some (.int .i64 l) ∧ w'.cell? ⟨w7.heap.size, 1, none⟩ = some (.int .i64 b) ∧ w'.cell? ⟨w7.heap.size, 2, none⟩ = some (.slice a3 xs.length c3) ∧ w'.cell? ⟨w7.heap.size, 3, none⟩ = some (.slice a4 ys.length c4)))
    (first | (with_reducible exact K10) | (with_reducible exact K11) | (with_reducible exact K12) | (with_reducible exact K13))
    (first
      | (go_at_call 18; refine (toPar_any _ _ _ _ _).mono ?_; rintro e w9 ⟨rfl, hc9⟩; have hb9 := hb8D.trans (hc9.mono hb8D.size); have B9 := BB.out _ _ B8D hc9; have Y9 := Y8D.below hc9 Y8D.lt; have a9 := a8D.trans (hc9.mono a8D.size); have K11 := KL.out _ B9 Y9)
      | (go_at_call 19; refine (toHead_any _ _ _ _).mono ?_; rintro e w10 ⟨rfl, hc10⟩; have hb10 := hb9.trans (hc10.mono hb9.size); have B10 := BB.out _ _ B9 hc10; have Y10 := Y9.below hc10 Y9.lt; have a10 := a9.trans (hc10.mono a9.size); have K12 := KL.out _ B10 Y10)
      | (go_at_call 10; refine (CI.out _ _ _ _ _ ⟨⟨(J8.out _ a10).1, (J8.out _ a10).2, E.out _ hb10⟩, M.out⟩).mono ?_; rintro e w11 ⟨rfl, hc11⟩; have hb11 := hb10.trans (hc11.mono hb10.size); have B11 := BB.out _ _ B10 hc11; have Y11 := Y10.below hc11 Y10.lt; have a11 := a10.trans (hc11.mono a10.size); have K13 := KL.out _ B11 Y11))
  clear K10 K11 K12 K13 B8D Y8D hb8D a8D hc9 hb9 B9 Y9 a9 hc10 hb10 B10 Y10 a10 hc11 CI
  have KE : Hid (∀ W' : World, (Blk W' w.heap.size #[.int .i64 l, .int .i64 b, .slice a1 xs.length c1, .slice a2 ys.length c2] 42 ∧ Blk W' (w.heap.size + 1) #[.int .i64 q, .bool g, .bool x, .bool c] 43 ∧ Blk W' (w.heap.size + 1 + 1) #[.int .i64 t, .int .i64 f, .int .i64 k] 44) → Blk W' w7.heap.size #[.int .i64 l, .int .i64 b, .slice a3 xs.length c3, .slice a4 ys.length c4] 26 → (W'.cell? ⟨w.heap.size, 0, none⟩ = some (.int .i64 l) ∧ W'.cell? ⟨w.heap.size, 1, none⟩ = some (.int .i64 b) ∧ W'.cell? ⟨w.heap.size, 2, none⟩ = some (.slice a1 xs.length c1) ∧ W'.cell? ⟨w.heap.size, 3, none⟩ = some (.slice a2 ys.length c2)) ∧ (W'.cell? ⟨w7.heap.size, 0, none⟩ = some (.int .i64 l) ∧ W'.cell? ⟨w7.heap.size, 1, none⟩ = some (.int .i64 b) ∧ W'.cell? ⟨w7.heap.size, 2, none⟩ = some (.slice a3 xs.length c3) ∧ W'.cell? ⟨w7.heap.size, 3, none⟩ = some (.slice a4 ys.length c4))) := fun W' h1 h2 => ⟨h1.1.four.1, h2.four.1⟩
  have BD : (Blk w11.drew w.heap.size #[.int .i64 l, .int .i64 b, .slice a1 xs.length c1, .slice a2 ys.length c2] 42 ∧ Blk w11.drew (w.heap.size + 1) #[.int .i64 q, .bool g, .bool x, .bool c] 43 ∧ Blk w11.drew (w.heap.size + 1 + 1) #[.int .i64 t, .int .i64 f, .int .i64 k] 44) := B11
  have YD := Y11.drew
  have hbD := hb11.drew
  have aD := a11.drew
  have K20 := KE.out _ BD YD
  clear B11 Y11 hb11 a11
  go_wp2_with fail
  go_region_held3 (fun w' => (w'.cell? ⟨w.heap.size, 0, none⟩ = some (.int .i64 l) ∧ w'.cell? ⟨w.heap.size, 1, none⟩ = some (.int .i64 b) ∧ w'.cell? ⟨w.heap.size, 2, none⟩ = some (.slice a1 xs.length c1) ∧ w'.cell? ⟨w.heap.size, 3, none⟩ = some (.slice a2 ys.length c2)) ∧ (w'.cell? ⟨w7.heap.size, 0, none⟩ = some (.int .i64 l) ∧ w'.cell? ⟨w7.heap.size, 1, none⟩ = some (.int .i64 b) ∧ w'.cell? ⟨w7.heap.size, 2, none⟩ = some (.slice a3 xs.length c3) ∧ w'.cell? ⟨w7.heap.size, 3, none⟩ = some (.slice a4 ys.length c4)))
    (first | (with_reducible exact K20) | (with_reducible exact K21) | (with_reducible exact K22))
    (first
      | (go_at_call 17; refine (toSeq_any _ _ _ _ _ _ _ _ _ (I.out _ hbD).1 (I.out _ hbD).2 k1 k2).mono ?_; rintro e w14 ⟨a5, a6, c5, c6, rfl, i5, i6, hc14⟩; have hb14 := hbD.trans (hc14.mono hbD.size); have B14 := BB.out _ _ BD hc14; have Y14 := YD.below hc14 YD.lt; have a14 := aD.trans (hc14.mono aD.size); have K21 := KE.out _ B14 Y14; have J14 : Hid (Ints w14 a5 xs ∧ Ints w14 a6 ys) := ⟨i5, i6⟩; clear i5 i6)
      | (go_at_call 20; refine (eqSeq_any _ _ _ _ _ _ _ _ _ _ _ _ _ (J8.out _ a14).1 (J8.out _ a14).2 J14.out.1 J14.out.2 k1 k2).mono ?_; rintro e w15 ⟨rfl, hc15⟩; have hb15 := hb14.trans (hc15.mono hb14.size); have K22 := KE.out _ (BB.out _ _ B14 hc15) (Y14.below hc15 Y14.lt)))
  all_goals
    clear K20 K21 K22 BD YD hbD aD B14 Y14 a14 J14 hc14 hc15 hb14
    go_wp2
    go_ret
    exact ⟨rfl, hb15⟩
end Go.Proofs.YtdokmojifkggjaaDoor
