/-
  The walk of laws.FnExactReadHead.
-/
import Derived.Test.YtdokmojifkggjaaDoorHeadArg
import Derived.Test.YtdokmojifkggjaaDoorHeadLaws
import Derived.Deep.CutRange
namespace Go.Proofs.YtdokmojifkggjaaDoor
open Go.RowKit
set_option linter.unusedVariables false
set_option maxRecDepth 20000

theorem set3B {w w' : World} {g : Nat} (h : Below w.heap.size w w') (hg : w.heap.size ≤ g) (v0 v1 v2 : Value) : Below w.heap.size w (((w'.setCell ⟨g, 0, none⟩ v0).setCell ⟨g, 1, none⟩ v1).setCell ⟨g, 2, none⟩ v2) := by go_grown
theorem Blk.other3w {w : World} {g k : Nat} {cs : Array Value} {t : TypeId} (h : Blk w g cs t) (hne : g ≠ k) (v0 v1 v2 : Value) : Blk (((w.setCell ⟨k, 0, none⟩ v0).setCell ⟨k, 1, none⟩ v1).setCell ⟨k, 2, none⟩ v2) g cs t :=
  ((h.other ⟨k, 0, none⟩ v0 hne).other ⟨k, 1, none⟩ v1 hne).other ⟨k, 2, none⟩ v2 hne

set_option maxHeartbeats 6400000 in
theorem fnExactReadHead_walk (l b : Int) (a1 a2 : Option Addr) (xs ys : List Int) (c1 c2 : Nat) (q : Int) (g x c : Bool) (s : ByteArray) (ws : s.size ≤ maxLen) (w : World) (hE : ErrT w) (h1 : Ints w a1 xs) (h2 : Ints w a2 ys) (m1 : xs.length ≤ maxLen) (m2 : ys.length ≤ maxLen) :
    Calls Tryd.prog 6 #[.agg #[.int .i64 l, .int .i64 b, .slice a1 xs.length c1, .slice a2 ys.length c2], .agg #[.int .i64 q, .bool g, .bool x, .bool c], .string s] w fun e w' => e = .returned (.bool true) ∧ Below w.heap.size w w' := by
  by_cases hbig : 1048576 < s.size
  · have hm := ws
    unfold maxLen at hm
    go_enter Tryd.func6, Tryd.ntmps6
    go_wp2
    go_ret
    exact ⟨rfl, by go_grown⟩
  have hsm : (s.size : Int) ≤ 1048576 := by omega
  clear hbig
  obtain ⟨t, f, k, n, y, CS, CI⟩ := fnExactReadHead_both l b xs ys q g x c s ws
  have E : Hid (∀ w', Below w.heap.size w w' → ErrT w') := fun w' hb => hE.below hb (Nat.le_refl _)
  have I : Hid (∀ w', Below w.heap.size w w' → Ints w' a1 xs ∧ Ints w' a2 ys) := fun w' hb => ⟨h1.below hb (Nat.le_refl _), h2.below hb (Nat.le_refl _)⟩
  have M : Hid (xs.length ≤ maxLen ∧ ys.length ≤ maxLen) := ⟨m1, m2⟩
  have KB : Hid (∀ W' : World, (Blk W' w.heap.size #[.int .i64 l, .int .i64 b, .slice a1 xs.length c1, .slice a2 ys.length c2] 42 ∧ Blk W' (w.heap.size + 1) #[.int .i64 q, .bool g, .bool x, .bool c] 43) → (W'.cell? ⟨w.heap.size, 0, none⟩ = some (.int .i64 l) ∧ W'.cell? ⟨w.heap.size, 1, none⟩ = some (.int .i64 b) ∧ W'.cell? ⟨w.heap.size, 2, none⟩ = some (.slice a1 xs.length c1) ∧ W'.cell? ⟨w.heap.size, 3, none⟩ = some (.slice a2 ys.length c2)) ∧ (W'.cell? ⟨w.heap.size + 1, 0, none⟩ = some (.int .i64 q) ∧ W'.cell? ⟨w.heap.size + 1, 1, none⟩ = some (.bool g) ∧ W'.cell? ⟨w.heap.size + 1, 2, none⟩ = some (.bool x) ∧ W'.cell? ⟨w.heap.size + 1, 3, none⟩ = some (.bool c))) := fun W' h => ⟨h.1.four.1, h.2.four.1⟩
  have BB : Hid (∀ W' W'' : World, (Blk W' w.heap.size #[.int .i64 l, .int .i64 b, .slice a1 xs.length c1, .slice a2 ys.length c2] 42 ∧ Blk W' (w.heap.size + 1) #[.int .i64 q, .bool g, .bool x, .bool c] 43) → Below W'.heap.size W' W'' → (Blk W'' w.heap.size #[.int .i64 l, .int .i64 b, .slice a1 xs.length c1, .slice a2 ys.length c2] 42 ∧ Blk W'' (w.heap.size + 1) #[.int .i64 q, .bool g, .bool x, .bool c] 43)) := fun W' W'' h hb => ⟨h.1.below hb h.1.lt, h.2.below hb h.2.lt⟩
  have BS : Hid (∀ (W' : World) (gz : Nat) (v0 v1 v2 : Value), (Blk W' w.heap.size #[.int .i64 l, .int .i64 b, .slice a1 xs.length c1, .slice a2 ys.length c2] 42 ∧ Blk W' (w.heap.size + 1) #[.int .i64 q, .bool g, .bool x, .bool c] 43) → w.heap.size + 1 < gz → (Blk (((W'.setCell ⟨gz, 0, none⟩ v0).setCell ⟨gz, 1, none⟩ v1).setCell ⟨gz, 2, none⟩ v2) w.heap.size #[.int .i64 l, .int .i64 b, .slice a1 xs.length c1, .slice a2 ys.length c2] 42 ∧ Blk (((W'.setCell ⟨gz, 0, none⟩ v0).setCell ⟨gz, 1, none⟩ v1).setCell ⟨gz, 2, none⟩ v2) (w.heap.size + 1) #[.int .i64 q, .bool g, .bool x, .bool c] 43)) := fun W' gz v0 v1 v2 h hg => ⟨h.1.other3w (by omega) v0 v1 v2, h.2.other3w (by omega) v0 v1 v2⟩
  clear h1 h2 hE
  go_enter Tryd.func6, Tryd.ntmps6
  go_wp2_with fail
  generalize hW : World.alloc (World.alloc w _) _ = W
  have hs : W.heap.size = w.heap.size + 2 := by rw [← hW]; simp
  have B0 : (Blk W w.heap.size #[.int .i64 l, .int .i64 b, .slice a1 xs.length c1, .slice a2 ys.length c2] 42 ∧ Blk W (w.heap.size + 1) #[.int .i64 q, .bool g, .bool x, .bool c] 43) := by rw [← hW]; exact ⟨(Blk.new w _ _).alloc _, Blk.new' _ _ (by simp)⟩
  have hb0 : Below w.heap.size w W := by rw [← hW]; exact ((Below.refl _ _).alloc (Nat.le_refl _) _).alloc (by simp) _
  clear hW
  refine (szSeq_any _ _ _ _ _ _ _ _ W m1 m2).mono ?_
  rintro e w1 ⟨r0, rfl, hr | ⟨hr, n1, n2⟩, hc⟩
  · have hb1 := hb0.trans (hc.mono hb0.size)
    clear hc
    go_wp2
    go_ret
    exact ⟨rfl, hb1⟩
  have hb1 := hb0.trans (hc.mono hb0.size)
  have Bb := BB.out _ _ B0 hc
  have gb : w.heap.size + 1 < w1.heap.size := Bb.2.lt
  clear hc hb0 B0
  have k1 : xs.length ≤ 1048576 := by omega
  have k2 : ys.length ≤ 1048576 := by omega
  clear hs
  go_wp2_with fail
  go_cut [8, 9, 10] from 23 to 32 (fun p1 p2 p3 wc => ∃ gw, p1 = .pointer (some ⟨gw, 0, none⟩) ∧ p2 = .int .i64 n ∧ p3 = .bool y ∧ Blk wc gw #[.int .i64 t, .int .i64 f, .int .i64 k] 30 ∧ w1.heap.size ≤ gw ∧ Below w1.heap.size w1 wc)
  case first =>
    have K0 := KB.out w1.drew Bb
    have K0a := KB.out _ (BB.out _ _ Bb ((Below.refl w1.heap.size w1).alloc (Nat.le_refl _) (.cells #[.int .i64 0, .int .i64 0, .int .i64 0] 30)).drew)
    go_region_held3 (fun w' => (w'.cell? ⟨w.heap.size, 0, none⟩ = some (.int .i64 l) ∧ w'.cell? ⟨w.heap.size, 1, none⟩ = some (.int .i64 b) ∧ w'.cell? ⟨w.heap.size, 2, none⟩ = some (.slice a1 xs.length c1) ∧ w'.cell? ⟨w.heap.size, 3, none⟩ = some (.slice a2 ys.length c2)) ∧ (w'.cell? ⟨w.heap.size + 1, 0, none⟩ = some (.int .i64 q) ∧ w'.cell? ⟨w.heap.size + 1, 1, none⟩ = some (.bool g) ∧ w'.cell? ⟨w.heap.size + 1, 2, none⟩ = some (.bool x) ∧ w'.cell? ⟨w.heap.size + 1, 3, none⟩ = some (.bool c)))
      (first | (with_reducible exact K0) | (with_reducible exact K0a) | (with_reducible exact K1) | (with_reducible exact K1a) | (with_reducible exact K2) | (with_reducible exact K2a) | (with_reducible exact K3) | (with_reducible exact K3a) | (with_reducible exact K3b) | (with_reducible exact KS))
      (first
        | (go_at_call 17; refine (toSeq_any _ _ _ _ _ _ _ _ _ (I.out _ (by go_grown)).1 (I.out _ (by go_grown)).2 k1 k2).mono ?_; rintro e u1 ⟨u3x, u4x, d3, d4, rfl, i3, i4, hc1⟩; have hq1 : Below w1.heap.size w1 u1 := (show Below w1.heap.size w1 _ by go_grown).trans (hc1.mono (by simp)); have HQ1 : Below w1.heap.size w1 u1 := hq1; have B1 := BB.out _ _ Bb hq1; have K1 := KB.out _ B1; have K1a := KB.out _ (BB.out _ _ B1 ((Below.refl u1.heap.size u1).alloc (Nat.le_refl _) (.cells #[.int .i64 0, .int .i64 0, .int .i64 0] 30))); have J1 : Hid (Ints u1 u3x xs ∧ Ints u1 u4x ys) := ⟨i3, i4⟩; clear i3 i4; (first | (have Z1 : Blk u1 w1.heap.size #[.int .i64 0, .int .i64 0, .int .i64 0] 30 := ((Blk.new w1 #[.int .i64 0, .int .i64 0, .int .i64 0] 30).drew).below hc1 (by simp); have gz1 : w1.heap.size ≤ w1.heap.size := Nat.le_refl _) | skip))
        | (go_at_call 18; refine (toPar_any _ _ _ _ _).mono ?_; rintro e u2 ⟨rfl, hc2⟩; have hq2 : Below u1.heap.size u1 u2 := (show Below u1.heap.size u1 _ by go_grown).trans (hc2.mono (by simp)); have HQ2 : Below w1.heap.size w1 u2 := HQ1.trans (hq2.mono HQ1.size); have B2 := BB.out _ _ B1 hq2; have K2 := KB.out _ B2; have K2a := KB.out _ (BB.out _ _ B2 ((Below.refl u2.heap.size u2).alloc (Nat.le_refl _) (.cells #[.int .i64 0, .int .i64 0, .int .i64 0] 30))); have J2 : Hid (∀ w', Below u2.heap.size u2 w' → Ints w' u3x xs ∧ Ints w' u4x ys) := fun w' hb => ⟨(J1.out.1.below hq2 (Nat.le_refl _)).below hb (Nat.le_refl _), (J1.out.2.below hq2 (Nat.le_refl _)).below hb (Nat.le_refl _)⟩; have hbu2 := hb1.trans (HQ2.mono hb1.size); (first | (have Z2 := Z1.below hq2 Z1.lt; have gz2 := gz1) | (have Z2 : Blk u2 u1.heap.size #[.int .i64 0, .int .i64 0, .int .i64 0] 30 := (Blk.new u1 #[.int .i64 0, .int .i64 0, .int .i64 0] 30).below hc2 (by simp); have gz2 : w1.heap.size ≤ u1.heap.size := HQ1.size) | skip))
        | (go_at_call 22; refine (CS.out _ _ _ _ _ ⟨⟨(J2.out _ (by go_grown)).1, (J2.out _ (by go_grown)).2, E.out _ (by first | exact hbu2 | exact hbu2.alloc hbu2.size _)⟩, M.out⟩).mono ?_; rintro e u3 ⟨rfl, hc3⟩; have hq3 : Below u2.heap.size u2 u3 := (show Below u2.heap.size u2 _ by go_grown).trans (hc3.mono (by simp)); have HQ3 : Below w1.heap.size w1 u3 := HQ2.trans (hq3.mono HQ2.size); have B3 := BB.out _ _ B2 hq3; have K3 := KB.out _ B3; have K3a := KB.out _ (BB.out _ _ B3 ((Below.refl u3.heap.size u3).alloc (Nat.le_refl _) (.cells #[.int .i64 0, .int .i64 0, .int .i64 0] 30))); (first | (have Z3 := Z2.below hq3 Z2.lt; have gz3 := gz2) | (have Z3 : Blk u3 u2.heap.size #[.int .i64 0, .int .i64 0, .int .i64 0] 30 := (Blk.new u2 #[.int .i64 0, .int .i64 0, .int .i64 0] 30).below hc3 (by simp); have gz3 : w1.heap.size ≤ u2.heap.size := HQ2.size) | skip); have K3b := KB.out _ (BB.out _ _ B3 ((Below.refl u3.heap.size u3).alloc (Nat.le_refl _) (.cells #[.int .i64 t, .int .i64 f, .int .i64 k] 30))); (first | (obtain ⟨⟨z0, z1, z2⟩, f0, f1, f2⟩ := Z3.three; have KS := KB.out _ (BS.out _ _ (.int .i64 t) (.int .i64 f) (.int .i64 k) B3 (Nat.lt_of_lt_of_le gb gz3))) | skip)))
    all_goals
      go_wp2_with fail
      go_meet
      first
      | exact ⟨_, rfl, rfl, rfl, ((Z3.set 0 (.int .i64 t) (by simp)).set 1 (.int .i64 f) (by simp)).set 2 (.int .i64 k) (by simp), gz3, set3B HQ3 gz3 _ _ _⟩
      | exact ⟨_, rfl, rfl, rfl, Blk.new u3 _ _, HQ3.size, HQ3.alloc HQ3.size _⟩
  case rest =>
  revert hcut
  generalize wc = wx
  rintro ⟨gw, rfl, rfl, rfl, N5, g5, hbx⟩
  have B6 := BB.out _ _ Bb hbx
  have hb6 := hb1.trans (hbx.mono hb1.size)
  clear Bb hb1 hbx CS
  obtain ⟨⟨x0, x1, x2, x3⟩, y0, y1, y2, y3⟩ := KB.out _ B6
  go_wp2_with fail
  refine (toSeq_any _ _ _ _ _ _ _ _ wx (I.out _ hb6).1 (I.out _ hb6).2 k1 k2).mono ?_
  rintro e w7 ⟨a3, a4, c3, c4, rfl, i3, i4, hc⟩
  have hb7 := hb6.trans (hc.mono hb6.size)
  have B7 := BB.out _ _ B6 hc
  have N7 := N5.below hc N5.lt
  have a7 := (Below.refl w7.heap.size w7).alloc (Nat.le_refl _) (.cells #[.int .i64 l, .int .i64 b, .slice a3 xs.length c3, .slice a4 ys.length c4] 26)
  have Y8 := Blk.new w7 #[.int .i64 l, .int .i64 b, .slice a3 xs.length c3, .slice a4 ys.length c4] 26
  have J8 : Hid (∀ w', Below w7.heap.size w7 w' → Ints w' a3 xs ∧ Ints w' a4 ys) := fun w' hb => ⟨i3.below hb (Nat.le_refl _), i4.below hb (Nat.le_refl _)⟩
  have hb8 := hb7.trans (a7.mono hb7.size)
  have B8 := BB.out _ _ B7 a7
  have N8 := N7.below a7 N7.lt
  have gw7 : gw < w7.heap.size := N7.lt
  have gx7 : w.heap.size + 1 < w7.heap.size := B7.2.lt
  clear hc hb6 B6 N5 N7 hb7 B7 i3 i4 x0 x1 x2 x3 y0 y1 y2 y3 g5
  go_wp2_with fail
  have J9 : Hid (∀ w', Below (w7.alloc (.cells #[.int .i64 l, .int .i64 b, .slice a3 xs.length c3, .slice a4 ys.length c4] 26)).heap.size (w7.alloc (.cells #[.int .i64 l, .int .i64 b, .slice a3 xs.length c3, .slice a4 ys.length c4] 26)) w' → Ints w' a3 xs ∧ Ints w' a4 ys) := fun w' hb => J8.out _ (a7.trans (hb.mono a7.size))
  have gxv : w7.heap.size < (w7.alloc (.cells #[.int .i64 l, .int .i64 b, .slice a3 xs.length c3, .slice a4 ys.length c4] 26)).heap.size := Y8.lt
  clear J8 a7
  generalize w7.alloc _ = V at *
  generalize w7.heap.size = gx at *
  have KL : Hid (∀ W' : World, ((Blk W' w.heap.size #[.int .i64 l, .int .i64 b, .slice a1 xs.length c1, .slice a2 ys.length c2] 42 ∧ Blk W' (w.heap.size + 1) #[.int .i64 q, .bool g, .bool x, .bool c] 43) ∧ Blk W' gx #[.int .i64 l, .int .i64 b, .slice a3 xs.length c3, .slice a4 ys.length c4] 26) → ((W'.cell? ⟨w.heap.size, 0, none⟩ = some (.int .i64 l) ∧ W'.cell? ⟨w.heap.size, 1, none⟩ = some (.int .i64 b) ∧ W'.cell? ⟨w.heap.size, 2, none⟩ = some (.slice a1 xs.length c1) ∧ W'.cell? ⟨w.heap.size, 3, none⟩ = some (.slice a2 ys.length c2)) ∧ (W'.cell? ⟨w.heap.size + 1, 0, none⟩ = some (.int .i64 q) ∧ W'.cell? ⟨w.heap.size + 1, 1, none⟩ = some (.bool g) ∧ W'.cell? ⟨w.heap.size + 1, 2, none⟩ = some (.bool x) ∧ W'.cell? ⟨w.heap.size + 1, 3, none⟩ = some (.bool c))) ∧ (W'.cell? ⟨gx, 0, none⟩ = some (.int .i64 l) ∧ W'.cell? ⟨gx, 1, none⟩ = some (.int .i64 b) ∧ W'.cell? ⟨gx, 2, none⟩ = some (.slice a3 xs.length c3) ∧ W'.cell? ⟨gx, 3, none⟩ = some (.slice a4 ys.length c4))) := fun W' h => ⟨KB.out _ h.1, h.2.four.1⟩
  have BL : Hid (∀ W' W'' : World, ((Blk W' w.heap.size #[.int .i64 l, .int .i64 b, .slice a1 xs.length c1, .slice a2 ys.length c2] 42 ∧ Blk W' (w.heap.size + 1) #[.int .i64 q, .bool g, .bool x, .bool c] 43) ∧ Blk W' gx #[.int .i64 l, .int .i64 b, .slice a3 xs.length c3, .slice a4 ys.length c4] 26) → Below W'.heap.size W' W'' → ((Blk W'' w.heap.size #[.int .i64 l, .int .i64 b, .slice a1 xs.length c1, .slice a2 ys.length c2] 42 ∧ Blk W'' (w.heap.size + 1) #[.int .i64 q, .bool g, .bool x, .bool c] 43) ∧ Blk W'' gx #[.int .i64 l, .int .i64 b, .slice a3 xs.length c3, .slice a4 ys.length c4] 26)) := fun W' W'' h hb => ⟨BB.out _ _ h.1 hb, h.2.below hb h.2.lt⟩
  have SL : Hid (∀ (W' : World) (gz : Nat) (v0 v1 v2 : Value), ((Blk W' w.heap.size #[.int .i64 l, .int .i64 b, .slice a1 xs.length c1, .slice a2 ys.length c2] 42 ∧ Blk W' (w.heap.size + 1) #[.int .i64 q, .bool g, .bool x, .bool c] 43) ∧ Blk W' gx #[.int .i64 l, .int .i64 b, .slice a3 xs.length c3, .slice a4 ys.length c4] 26) → gx < gz → ((Blk (((W'.setCell ⟨gz, 0, none⟩ v0).setCell ⟨gz, 1, none⟩ v1).setCell ⟨gz, 2, none⟩ v2) w.heap.size #[.int .i64 l, .int .i64 b, .slice a1 xs.length c1, .slice a2 ys.length c2] 42 ∧ Blk (((W'.setCell ⟨gz, 0, none⟩ v0).setCell ⟨gz, 1, none⟩ v1).setCell ⟨gz, 2, none⟩ v2) (w.heap.size + 1) #[.int .i64 q, .bool g, .bool x, .bool c] 43) ∧ Blk (((W'.setCell ⟨gz, 0, none⟩ v0).setCell ⟨gz, 1, none⟩ v1).setCell ⟨gz, 2, none⟩ v2) gx #[.int .i64 l, .int .i64 b, .slice a3 xs.length c3, .slice a4 ys.length c4] 26)) := fun W' gz v0 v1 v2 h hg => ⟨BS.out _ _ _ _ _ h.1 (by omega), h.2.other3w (by omega) v0 v1 v2⟩
  have Bb : ((Blk V w.heap.size #[.int .i64 l, .int .i64 b, .slice a1 xs.length c1, .slice a2 ys.length c2] 42 ∧ Blk V (w.heap.size + 1) #[.int .i64 q, .bool g, .bool x, .bool c] 43) ∧ Blk V gx #[.int .i64 l, .int .i64 b, .slice a3 xs.length c3, .slice a4 ys.length c4] 26) := ⟨B8, Y8⟩
  have gb : gx < V.heap.size := gxv
  have EV : Hid (∀ w', Below V.heap.size V w' → ErrT w') := fun w' hb => E.out _ (hb8.trans (hb.mono hb8.size))
  clear B8 Y8 gxv
  go_cut [12, 13, 14] from 35 to 43 (fun p1 p2 p3 wc => ∃ gw, p1 = .pointer (some ⟨gw, 0, none⟩) ∧ p2 = .int .i64 n ∧ p3 = .bool y ∧ Blk wc gw #[.int .i64 t, .int .i64 f, .int .i64 k] 30 ∧ V.heap.size ≤ gw ∧ Below V.heap.size V wc)
  case first =>
    clear N8 hb8
    have K0 := KL.out V.drew Bb
    have K0a := KL.out _ (BL.out _ _ Bb ((Below.refl V.heap.size V).alloc (Nat.le_refl _) (.cells #[.int .i64 0, .int .i64 0, .int .i64 0] 30)).drew)
    go_region_held3 (fun w' => ((w'.cell? ⟨w.heap.size, 0, none⟩ = some (.int .i64 l) ∧ w'.cell? ⟨w.heap.size, 1, none⟩ = some (.int .i64 b) ∧ w'.cell? ⟨w.heap.size, 2, none⟩ = some (.slice a1 xs.length c1) ∧ w'.cell? ⟨w.heap.size, 3, none⟩ = some (.slice a2 ys.length c2)) ∧ (w'.cell? ⟨w.heap.size + 1, 0, none⟩ = some (.int .i64 q) ∧ w'.cell? ⟨w.heap.size + 1, 1, none⟩ = some (.bool g) ∧ w'.cell? ⟨w.heap.size + 1, 2, none⟩ = some (.bool x) ∧ w'.cell? ⟨w.heap.size + 1, 3, none⟩ = some (.bool c))) ∧ (w'.cell? ⟨gx, 0, none⟩ = some (.int .i64 l) ∧ w'.cell? ⟨gx, 1, none⟩ = some (.int .i64 b) ∧ w'.cell? ⟨gx, 2, none⟩ = some (.slice a3 xs.length c3) ∧ w'.cell? ⟨gx, 3, none⟩ = some (.slice a4 ys.length c4)))
      (first | (with_reducible exact K0) | (with_reducible exact K0a) | (with_reducible exact K1) | (with_reducible exact K1a) | (with_reducible exact K2) | (with_reducible exact K2a) | (with_reducible exact K2b) | (with_reducible exact KS))
      (first
        | (go_at_call 18; refine (toPar_any _ _ _ _ _).mono ?_; rintro e u1 ⟨rfl, hc1⟩; have hq1 : Below V.heap.size V u1 := (show Below V.heap.size V _ by go_grown).trans (hc1.mono (by simp)); have HQ1 : Below V.heap.size V u1 := hq1; have B1 := BL.out _ _ Bb hq1; have K1 := KL.out _ B1; have K1a := KL.out _ (BL.out _ _ B1 ((Below.refl u1.heap.size u1).alloc (Nat.le_refl _) (.cells #[.int .i64 0, .int .i64 0, .int .i64 0] 30))); (first | (have Z1 : Blk u1 V.heap.size #[.int .i64 0, .int .i64 0, .int .i64 0] 30 := ((Blk.new V #[.int .i64 0, .int .i64 0, .int .i64 0] 30).drew).below hc1 (by simp); have gz1 : V.heap.size ≤ V.heap.size := Nat.le_refl _) | skip))
        | (go_at_call 13; refine (CI.out _ _ _ _ _ ⟨⟨(J9.out _ (by first | exact HQ1 | exact HQ1.alloc HQ1.size _)).1, (J9.out _ (by first | exact HQ1 | exact HQ1.alloc HQ1.size _)).2, EV.out _ (by first | exact HQ1 | exact HQ1.alloc HQ1.size _)⟩, M.out⟩).mono ?_; rintro e u2 ⟨rfl, hc2⟩; have hq2 : Below u1.heap.size u1 u2 := (show Below u1.heap.size u1 _ by go_grown).trans (hc2.mono (by simp)); have HQ2 : Below V.heap.size V u2 := HQ1.trans (hq2.mono HQ1.size); have B2 := BL.out _ _ B1 hq2; have K2 := KL.out _ B2; have K2a := KL.out _ (BL.out _ _ B2 ((Below.refl u2.heap.size u2).alloc (Nat.le_refl _) (.cells #[.int .i64 0, .int .i64 0, .int .i64 0] 30))); (first | (have Z2 := Z1.below hq2 Z1.lt; have gz2 := gz1) | (have Z2 : Blk u2 u1.heap.size #[.int .i64 0, .int .i64 0, .int .i64 0] 30 := (Blk.new u1 #[.int .i64 0, .int .i64 0, .int .i64 0] 30).below hc2 (by simp); have gz2 : V.heap.size ≤ u1.heap.size := HQ1.size) | skip); have K2b := KL.out _ (BL.out _ _ B2 ((Below.refl u2.heap.size u2).alloc (Nat.le_refl _) (.cells #[.int .i64 t, .int .i64 f, .int .i64 k] 30))); (first | (obtain ⟨⟨z0, z1, z2⟩, f0, f1, f2⟩ := Z2.three; have KS := KL.out _ (SL.out _ _ (.int .i64 t) (.int .i64 f) (.int .i64 k) B2 (Nat.lt_of_lt_of_le gb gz2))) | skip)))
    all_goals
      go_wp2_with fail
      go_meet
      first
      | exact ⟨_, rfl, rfl, rfl, ((Z2.set 0 (.int .i64 t) (by simp)).set 1 (.int .i64 f) (by simp)).set 2 (.int .i64 k) (by simp), gz2, set3B HQ2 gz2 _ _ _⟩
      | exact ⟨_, rfl, rfl, rfl, Blk.new u2 _ _, HQ2.size, HQ2.alloc HQ2.size _⟩
  case rest =>
  revert hcut
  generalize wc = wy
  rintro ⟨gg, rfl, rfl, rfl, G12, g12, hby⟩
  have B12 := BL.out _ _ Bb hby
  have N12 := N8.below hby N8.lt
  have hb12 := hb8.trans (hby.mono hb8.size)
  have J12 : Hid (∀ w', Below wy.heap.size wy w' → Ints w' a3 xs ∧ Ints w' a4 ys) := fun w' hb => J9.out _ (hby.trans (hb.mono hby.size))
  clear Bb N8 hb8 J9 hby CI EV SL BS KL
  obtain ⟨⟨p0, p1, p2⟩, _⟩ := G12.three
  obtain ⟨⟨r1, r2, r3⟩, _⟩ := N12.three
  go_wp2_with fail
  refine (eqHead_any _ _ _ wy).mono ?_
  rintro e w13 ⟨rfl, hc⟩
  have B13 := BL.out _ _ B12 hc
  have hb13 := hb12.trans (hc.mono hb12.size)
  have J13 : Hid (∀ w', Below w13.heap.size w13 w' → Ints w' a3 xs ∧ Ints w' a4 ys) := fun w' hb => J12.out _ (hc.trans (hb.mono hc.size))
  clear hc B12 hb12 G12 N12 J12 p0 p1 p2 r1 r2 r3
  have KE : Hid (∀ W' : World, ((Blk W' w.heap.size #[.int .i64 l, .int .i64 b, .slice a1 xs.length c1, .slice a2 ys.length c2] 42 ∧ Blk W' (w.heap.size + 1) #[.int .i64 q, .bool g, .bool x, .bool c] 43) ∧ Blk W' gx #[.int .i64 l, .int .i64 b, .slice a3 xs.length c3, .slice a4 ys.length c4] 26) → (W'.cell? ⟨w.heap.size, 0, none⟩ = some (.int .i64 l) ∧ W'.cell? ⟨w.heap.size, 1, none⟩ = some (.int .i64 b) ∧ W'.cell? ⟨w.heap.size, 2, none⟩ = some (.slice a1 xs.length c1) ∧ W'.cell? ⟨w.heap.size, 3, none⟩ = some (.slice a2 ys.length c2)) ∧ (W'.cell? ⟨gx, 0, none⟩ = some (.int .i64 l) ∧ W'.cell? ⟨gx, 1, none⟩ = some (.int .i64 b) ∧ W'.cell? ⟨gx, 2, none⟩ = some (.slice a3 xs.length c3) ∧ W'.cell? ⟨gx, 3, none⟩ = some (.slice a4 ys.length c4))) := fun W' h => ⟨h.1.1.four.1, h.2.four.1⟩
  have BD : ((Blk w13.drew w.heap.size #[.int .i64 l, .int .i64 b, .slice a1 xs.length c1, .slice a2 ys.length c2] 42 ∧ Blk w13.drew (w.heap.size + 1) #[.int .i64 q, .bool g, .bool x, .bool c] 43) ∧ Blk w13.drew gx #[.int .i64 l, .int .i64 b, .slice a3 xs.length c3, .slice a4 ys.length c4] 26) := B13
  have hbD := hb13.drew
  have K20 := KE.out _ BD
  clear B13 hb13
  go_wp2_with fail
  go_region_held3 (fun w' => (w'.cell? ⟨w.heap.size, 0, none⟩ = some (.int .i64 l) ∧ w'.cell? ⟨w.heap.size, 1, none⟩ = some (.int .i64 b) ∧ w'.cell? ⟨w.heap.size, 2, none⟩ = some (.slice a1 xs.length c1) ∧ w'.cell? ⟨w.heap.size, 3, none⟩ = some (.slice a2 ys.length c2)) ∧ (w'.cell? ⟨gx, 0, none⟩ = some (.int .i64 l) ∧ w'.cell? ⟨gx, 1, none⟩ = some (.int .i64 b) ∧ w'.cell? ⟨gx, 2, none⟩ = some (.slice a3 xs.length c3) ∧ w'.cell? ⟨gx, 3, none⟩ = some (.slice a4 ys.length c4)))
    (first | (with_reducible exact K20) | (with_reducible exact K21) | (with_reducible exact K22))
    (first
      | (go_at_call 17; refine (toSeq_any _ _ _ _ _ _ _ _ _ (I.out _ hbD).1 (I.out _ hbD).2 k1 k2).mono ?_; rintro e w14 ⟨a5, a6, c5, c6, rfl, i5, i6, hc14⟩; have hb14 := hbD.trans (hc14.mono hbD.size); have B14 := BL.out _ _ BD hc14; have K21 := KE.out _ B14; have J14 : Hid (Ints w14 a5 xs ∧ Ints w14 a6 ys) := ⟨i5, i6⟩; have J15 : Hid (Ints w14 a3 xs ∧ Ints w14 a4 ys) := J13.out _ ((Below.refl w13.heap.size w13).drew.trans hc14); clear i5 i6)
      | (go_at_call 20; refine (eqSeq_any _ _ _ _ _ _ _ _ _ _ _ _ _ J15.out.1 J15.out.2 J14.out.1 J14.out.2 k1 k2).mono ?_; rintro e w15 ⟨rfl, hc15⟩; have hb15 := hb14.trans (hc15.mono hb14.size); have K22 := KE.out _ (BL.out _ _ B14 hc15)))
  all_goals
    clear K20 K21 K22 BD hbD B14 J14 J15 hc14 hc15 hb14
    go_wp2
    go_ret
    exact ⟨rfl, hb15⟩
end Go.Proofs.YtdokmojifkggjaaDoor
