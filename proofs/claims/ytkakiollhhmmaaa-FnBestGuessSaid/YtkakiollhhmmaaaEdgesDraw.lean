/-
  Drawn edges and dots with their values: the walks of spec.l13Edges, spec.DrawEdges and spec.DrawWant.
-/
import Derived.Test.YtkakiollhhmmaaaDrawAll
import Derived.Test.YtkakiollhhmmaaaEdgeOkKit
import Derived.Test.YtkakiollhhmmaaaCstAll
import Derived.Deep.RegionHeld3
import Derived.Deep.RegionWith
namespace Go.Proofs.Ytkakiollhhmmaaa
open Go.RowKit
set_option linter.unusedVariables false
set_option maxRecDepth 20000

/-! ### What is drawn, as functions of the code and the cursor -/
def eS1 (zs : List Int) (S : Nat × Int) : Nat × Int := (dotsF zs 8 S).2
def eS2 (zs : List Int) (S : Nat × Int) : Nat × Int := (dotsF zs 8 (eS1 zs S)).2
def eS3 (zs : List Int) (S : Nat × Int) : Nat × Int := (byteF zs (eS2 zs S)).2
def eT1 (zs : List Int) (S : Nat × Int) : Int := (belF zs 8 (eS3 zs S)).1
def eS4 (zs : List Int) (S : Nat × Int) : Nat × Int := (belF zs 8 (eS3 zs S)).2
def eT2 (zs : List Int) (S : Nat × Int) : Int := (belF zs 20 (eS4 zs S)).1
def eS5 (zs : List Int) (S : Nat × Int) : Nat × Int := (belF zs 20 (eS4 zs S)).2
def eX0 (zs : List Int) (S : Nat × Int) : List Int := byteL (strOfNums (dotsF zs 8 S).1)
def eY0 (zs : List Int) (S : Nat × Int) : List Int := byteL (strOfNums (dotsF zs 8 (eS1 zs S)).1)
def eC0 (zs : List Int) (S : Nat × Int) : Int := (byteF zs (eS2 zs S)).1
def eX1 (t : Int) (X : List Int) : List Int := if t = 0 ∨ t = 2 then [] else X
def eY1 (t : Int) (Y : List Int) : List Int := if t = 1 ∨ t = 2 then [] else Y
def eC1 (t C : Int) : Int := if t = 0 ∨ t = 1 ∨ t = 2 then -1 else C
def eX2 (u : Int) (X : List Int) : List Int := if u = 0 then X ++ [9] else X
def eY2 (u x : Int) (Y : List Int) : List Int := if u = 1 ∧ ¬ Y.length = 0 then Y.set 3 (pick3F (-1) 256 255 x) else Y
def eC2 (u x C : Int) : Int := if u = 2 then pick3F (-2) 256 255 x else C
def eP (zs : List Int) (S : Nat × Int) : Int := (belF zs 3 (eS5 zs S)).1
def edX (zs : List Int) (S : Nat × Int) : List Int := eX2 (eT2 zs S) (eX1 (eT1 zs S) (eX0 zs S))
def edY (zs : List Int) (S : Nat × Int) : List Int := eY2 (eT2 zs S) (eP zs S) (eY1 (eT1 zs S) (eY0 zs S))
def edC (zs : List Int) (S : Nat × Int) : Int := eC2 (eT2 zs S) (eP zs S) (eC1 (eT1 zs S) (eC0 zs S))
theorem eX0_len (zs : List Int) (S : Nat × Int) : (eX0 zs S).length = 8 := by unfold eX0 byteL; rw [listF_length, strOfNums_size, dotsF_len]
theorem eY0_len (zs : List Int) (S : Nat × Int) : (eY0 zs S).length = 8 := by unfold eY0 byteL; rw [listF_length, strOfNums_size, dotsF_len]
theorem edX_len (zs : List Int) (S : Nat × Int) : (edX zs S).length ≤ 9 := by
  have := eX0_len zs S
  unfold edX eX2 eX1
  split <;> split <;> simp <;> omega
theorem edY_len (zs : List Int) (S : Nat × Int) : (edY zs S).length ≤ 9 := by
  have := eY0_len zs S
  unfold edY eY2 eY1
  split <;> split <;> simp <;> omega

theorem CurV.grew {w w' : World} {g : Nat} {a : Option Addr} {len : Nat} {S : Nat × Int} (h : CurV w g a len S) (hb : Below w.heap.size w w') : CurV w' g a len S := by
  obtain ⟨cap, h1, h2⟩ := h
  exact ⟨cap, by rw [hb.block g (Array.getElem?_eq_some_iff.1 h1).1]; exact h1, h2⟩
theorem CurV.put {w : World} {g k j : Nat} {a : Option Addr} {len : Nat} {S : Nat × Int} (h : CurV w g a len S) (hne : k ≠ g) (v : Value) : CurV (w.setCell ⟨k, j, none⟩ v) g a len S := by
  obtain ⟨cap, h1, h2⟩ := h
  exact ⟨cap, (Below.heap_setCell w ⟨k, j, none⟩ v g (by intro e; exact hne e.symm)).trans h1, h2⟩
theorem CurV.over {w w' : World} {g : Nat} {a : Option Addr} {len : Nat} {S : Nat × Int} {row : Option Nat} (h : CurV w g a len S) (hg : w.grownBy w' row) (hne : row ≠ some g) : CurV w' g a len S := h.kept hg (fun e => hne e.symm)
/-- All but one old block is as it was: the cursor's. -/
def Kept (w w' : World) (g : Nat) : Prop := w.grownBy w' (some g)
theorem Kept.below {w w1 w2 : World} {g : Nat} (h : Kept w w1 g) (hb : Below w1.heap.size w1 w2) : Kept w w2 g :=
  ⟨hb.os.trans h.os, hb.tape.trans h.tape, hb.output.trans h.output, Nat.le_trans h.size hb.size, fun k hk hn => (hb.block k (Nat.lt_of_lt_of_le hk h.size)).trans (h.block k hk hn)⟩
theorem Kept.put {w w1 : World} {g k j : Nat} (h : Kept w w1 g) (hk : w.heap.size ≤ k) (v : Value) : Kept w (w1.setCell ⟨k, j, none⟩ v) g :=
  ⟨h.os, h.tape, h.output, by simpa [World.setCell] using h.size, fun i hi hn => (Below.heap_setCell w1 ⟨k, j, none⟩ v i (by intro e; simp only at e; omega)).trans (h.block i hi hn)⟩
theorem Kept.on {w w1 w2 : World} {g : Nat} {row : Option Nat} (h : Kept w w1 g) (hg : w1.grownBy w2 row) (hr : ∀ k, row = some k → k = g ∨ w.heap.size ≤ k) : Kept w w2 g :=
  ⟨hg.os.trans h.os, hg.tape.trans h.tape, hg.output.trans h.output, Nat.le_trans h.size hg.size, fun i hi hn => (hg.block i (Nat.lt_of_lt_of_le hi h.size) (fun e => by
    rcases hr i e.symm with h1 | h1
    · exact hn (by rw [h1])
    · omega)).trans (h.block i hi hn)⟩
theorem World.grown_at' (w : World) (g j : Nat) (v : Value) : w.grownBy (w.setCell ⟨g, j, none⟩ v) (some g) :=
  ⟨rfl, rfl, rfl, by simp [World.setCell], fun k hk hne => Below.heap_setCell w ⟨g, j, none⟩ v k (by intro e; exact hne (by rw [e]))⟩
theorem EdgRows.put2 {w : World} {B ge G n c : Nat} {v1 : Value} {xs ys : List Int} (h : EdgRows w B ge v1 (.slice (some ⟨G, 0, none⟩) n c) xs ys) (hl : ys.length = n) (j : Nat) (x : Int) : EdgRows (w.setCell ⟨G, j, none⟩ (.int .i64 x)) B ge v1 (.slice (some ⟨G, 0, none⟩) n c) xs (ys.set j x) := by
  subst hl
  have hst := h.two.stored j (.int .i64 x)
  exact ⟨h.one.kept hst.2 (.inr (fun e => h.apart G e rfl)), by simpa using hst.1, h.away1, h.away2, h.apart⟩
theorem EdgRows.one' {w : World} {B ge n : Nat} {v1 v2 : Value} {xs ys : List Int} (h : EdgRows w B ge v1 v2 xs ys) (hl : xs.length = n) : w.ownsRow B 3 1 v1 n (xs.map (Value.int .i64)) := by rw [← hl]; exact h.one
theorem EdgRows.two' {w : World} {B ge n : Nat} {v1 v2 : Value} {xs ys : List Int} (h : EdgRows w B ge v1 v2 xs ys) (hl : ys.length = n) : w.ownsRow B 3 1 v2 n (ys.map (Value.int .i64)) := by rw [← hl]; exact h.two
theorem edgRows_nil (w : World) (B ge : Nat) : EdgRows w B ge (.slice none 0 0) (.slice none 0 0) [] [] :=
  ⟨⟨rfl, .inl ⟨rfl, rfl⟩⟩, ⟨rfl, .inl ⟨rfl, rfl⟩⟩, by simp [Value.ownBlock], by simp [Value.ownBlock], by simp [Value.ownBlock]⟩
theorem EdgRows.add1' {w w' : World} {B ge gg cp n : Nat} {v1 v2 : Value} {xs ys : List Int} {d : Int} (h : EdgRows w B ge v1 v2 xs ys) (hl : xs.length = n) (hge : ge < w.heap.size)
    (h1 : w'.ownsRow B 3 1 (.slice (some ⟨gg, 0, none⟩) (n + 1) cp) (n + 1) (xs.map (Value.int .i64) ++ [.int .i64 d])) (hg : w.grownBy w' v1.ownBlock) (hat : v1.ownBlock = some gg ∨ gg = w.heap.size) :
    EdgRows w' B ge (.slice (some ⟨gg, 0, none⟩) (n + 1) cp) v2 (xs ++ [d]) ys := by subst hl; exact h.add1 hge h1 hg hat
theorem EdgRows.cur {w w' : World} {B ge g : Nat} {v1 v2 : Value} {xs ys : List Int} (h : EdgRows w B ge v1 v2 xs ys) (hg : w.grownBy w' (some g)) (hlt : g < B) : EdgRows w' B ge v1 v2 xs ys := h.low hg hlt
theorem EdgRows.fresh1 {w : World} {B ge : Nat} {v1 v2 : Value} {xs ys : List Int} (h : EdgRows w B ge v1 v2 xs ys) (hB : B ≤ w.heap.size) (hge : ge < w.heap.size) : EdgRows (w.alloc (.cells #[] 3)) B ge (.slice (some ⟨w.heap.size, 0, none⟩) 0 0) v2 [] ys :=
  ⟨World.ownsRow_lit w #[] 0 hB (by unfold maxLen; omega) rfl, h.two.alloc _, by simp [Value.ownBlock]; omega, h.away2, fun k e h2 => by
    have e' : w.heap.size = k := Option.some.inj e
    have := (h.two.lt k h2).2
    omega⟩
theorem EdgRows.fresh2 {w : World} {B ge : Nat} {v1 v2 : Value} {xs ys : List Int} (h : EdgRows w B ge v1 v2 xs ys) (hB : B ≤ w.heap.size) (hge : ge < w.heap.size) : EdgRows (w.alloc (.cells #[] 3)) B ge v1 (.slice (some ⟨w.heap.size, 0, none⟩) 0 0) xs [] :=
  ⟨h.one.alloc _, World.ownsRow_lit w #[] 0 hB (by unfold maxLen; omega) rfl, h.away1, by simp [Value.ownBlock]; omega, fun k h1 e => by
    have e' : w.heap.size = k := Option.some.inj e
    have := (h.one.lt k h1).2
    omega⟩

set_option maxHeartbeats 12800000 in
theorem l13Edges_val (g : Nat) (a : Option Addr) (zs : List Int) (B0 : Nat) (S : Nat × Int) (w : World) (hc : CodeV w B0 a zs) (hB0 : B0 ≤ g) (hcur : CurV w g a zs.length S) :
    Calls Try.prog 20 #[.pointer (some ⟨g, 0, none⟩)] w fun e w' => (∃ a1 a2 c1 c2, e = .returned (edgV a1 (edX zs S).length c1 a2 (edY zs S).length c2 (edC zs S)) ∧ Ints w' a1 (edX zs S) ∧ Ints w' a2 (edY zs S)) ∧ Kept w w' g := by
  obtain ⟨i0, hi0, hz0, hz1, hz2⟩ := info_parts infoI
  have hgw := hcur.lt
  have HC : Hid (∀ w', Kept w w' g → CodeV w' B0 a zs) := fun w' h => hc.below (below_of_grown h (by omega) (fun k hk => by cases hk; exact hB0))
  have HXF : Hid (edX zs S = eX2 (eT2 zs S) (eX1 (eT1 zs S) (eX0 zs S))) := rfl
  have HYF : Hid (edY zs S = eY2 (eT2 zs S) (eP zs S) (eY1 (eT1 zs S) (eY0 zs S))) := rfl
  have HCF : Hid (edC zs S = eC2 (eT2 zs S) (eP zs S) (eC1 (eT1 zs S) (eC0 zs S))) := rfl
  have D1 : Hid (∀ w', CodeV w' B0 a zs → CurV w' g a zs.length S → Calls Try.prog 24 #[.pointer (some ⟨g, 0, none⟩), .int .i64 8] w' fun e w'' => e = .returned (.string (strOfNums (dotsF zs 8 S).1)) ∧ CurTo w' w'' g a zs.length (eS1 zs S)) := fun w' p q => dots_val g a zs B0 8 S w' p hB0 q (by decide)
  have D2 : Hid (∀ w', CodeV w' B0 a zs → CurV w' g a zs.length (eS1 zs S) → Calls Try.prog 24 #[.pointer (some ⟨g, 0, none⟩), .int .i64 8] w' fun e w'' => e = .returned (.string (strOfNums (dotsF zs 8 (eS1 zs S)).1)) ∧ CurTo w' w'' g a zs.length (eS2 zs S)) := fun w' p q => dots_val g a zs B0 8 (eS1 zs S) w' p hB0 q (by decide)
  have N1 : Hid (∀ w', Calls Try.prog 23 #[.string (strOfNums (dotsF zs 8 S).1)] w' fun e w'' => (∃ v, e = .returned v ∧ w''.ownsRow w'.heap.size 3 1 v 8 ((eX0 zs S).map (Value.int .i64))) ∧ Below w'.heap.size w' w'') := fun w' => by
    have := ints_val (strOfNums (dotsF zs 8 S).1) w' (by rw [strOfNums_size, dotsF_len]; decide)
    rw [show (byteL (strOfNums (dotsF zs 8 S).1)).length = 8 from eX0_len zs S] at this
    exact this
  have N2 : Hid (∀ w', Calls Try.prog 23 #[.string (strOfNums (dotsF zs 8 (eS1 zs S)).1)] w' fun e w'' => (∃ v, e = .returned v ∧ w''.ownsRow w'.heap.size 3 1 v 8 ((eY0 zs S).map (Value.int .i64))) ∧ Below w'.heap.size w' w'') := fun w' => by
    have := ints_val (strOfNums (dotsF zs 8 (eS1 zs S)).1) w' (by rw [strOfNums_size, dotsF_len]; decide)
    rw [show (byteL (strOfNums (dotsF zs 8 (eS1 zs S)).1)).length = 8 from eY0_len zs S] at this
    exact this
  have D3 : Hid (∀ w', CodeV w' B0 a zs → CurV w' g a zs.length (eS2 zs S) → Calls Try.prog 38 #[.pointer (some ⟨g, 0, none⟩)] w' fun e w'' => e = .returned (.int .i64 (eC0 zs S)) ∧ CurTo w' w'' g a zs.length (eS3 zs S)) := fun w' p q => byte_val g a zs B0 (eS2 zs S) w' p hB0 q
  have D4 : Hid (∀ w', CodeV w' B0 a zs → CurV w' g a zs.length (eS3 zs S) → Calls Try.prog 39 #[.pointer (some ⟨g, 0, none⟩), .int .i64 8] w' fun e w'' => e = .returned (.int .i64 (eT1 zs S)) ∧ CurTo w' w'' g a zs.length (eS4 zs S)) := fun w' p q => below_val g a zs B0 8 (eS3 zs S) w' p hB0 q (by decide) (by decide)
  have D5 : Hid (∀ w', CodeV w' B0 a zs → CurV w' g a zs.length (eS4 zs S) → Calls Try.prog 39 #[.pointer (some ⟨g, 0, none⟩), .int .i64 20] w' fun e w'' => e = .returned (.int .i64 (eT2 zs S)) ∧ CurTo w' w'' g a zs.length (eS5 zs S)) := fun w' p q => below_val g a zs B0 20 (eS4 zs S) w' p hB0 q (by decide) (by decide)
  have D6 : Hid (∀ (k c : Nat) (p q r : Int) w', CodeV w' B0 a zs → CurV w' g a zs.length (eS5 zs S) → Blk w' k #[.int .i64 p, .int .i64 q, .int .i64 r] 3 → k ≠ g → Calls Try.prog 40 #[.pointer (some ⟨g, 0, none⟩), .slice (some ⟨k, 0, none⟩) 3 c] w' fun e w'' => e = .returned (.int .i64 (pick3F p q r (eP zs S))) ∧ w'.grownBy w'' (some g)) := fun k c p q r w' h1 h2 h3 h4 => (pick_val g k c p q r a zs B0 (eS5 zs S) w' h1 hB0 h2 h3 h4).mono (fun e w'' h => ⟨h.1, h.2.2⟩)
  have lX := eX0_len zs S
  have lY := eY0_len zs S
  generalize strOfNums (dotsF zs 8 S).1 = s1 at *
  generalize strOfNums (dotsF zs 8 (eS1 zs S)).1 = s2 at *
  generalize edX zs S = FX at *
  generalize edY zs S = FY at *
  generalize edC zs S = FC at *
  generalize eX0 zs S = X0 at *
  generalize eY0 zs S = Y0 at *
  generalize eC0 zs S = C0 at *
  generalize eT1 zs S = t at *
  generalize eT2 zs S = u at *
  generalize eP zs S = x at *
  generalize eS1 zs S = S1 at *
  generalize eS2 zs S = S2 at *
  generalize eS3 zs S = S3 at *
  generalize eS4 zs S = S4 at *
  generalize eS5 zs S = S5 at *
  clear hc
  go_enter Try.func20, Try.ntmps20
  go_wp2_with fail
  generalize hW : World.alloc w _ = V
  have bR : Blk V w.heap.size #[.slice none 0 0, .slice none 0 0, .int .i64 0] 26 := by rw [← hW]; exact Blk.new w _ _
  have kV : Kept w V g := by rw [← hW]; exact World.grownBy_alloc w _ _
  have cV : CurV V g a zs.length S := by rw [← hW]; exact hcur.kept (World.grownBy_alloc w _ none) (by simp)
  clear hW hcur
  refine (D1.out V (HC.out V kV) cV).mono ?_
  rintro e u1 ⟨rfl, hk⟩
  have k1 : Kept w u1 g := kV.on hk.2 (fun k h => .inl (by cases h; rfl))
  have c1 := hk.1
  have r1 := bR.grew hk.2 (by intro e; have := Option.some.inj e; omega)
  clear hk kV cV bR
  have z1 := k1.size
  have hwu1 : w.heap.size < u1.heap.size := r1.lt
  go_wp2_with fail
  refine (N1.out u1).mono ?_
  rintro e u2 ⟨⟨v1, rfl, o2⟩, hb⟩
  obtain ⟨G1, q1, rfl, hG1, hG1'⟩ := o2.form (by omega)
  have k2 := k1.below hb
  have c2 := c1.grew hb
  have r2 := r1.below hb r1.lt
  have z2 := hb.size
  clear hb k1 c1 r1
  go_wp2_with fail
  refine (D2.out u2 (HC.out u2 k2) c2).mono ?_
  rintro e u3 ⟨rfl, hk⟩
  have k3 : Kept w u3 g := k2.on hk.2 (fun k h => .inl (by cases h; rfl))
  have c3 := hk.1
  have r3 := r2.grew hk.2 (by intro e; have := Option.some.inj e; omega)
  have o3 := o2.kept hk.2 (.inr (fun e => by have := (o2.lt g e).1; omega))
  have ap3 : Hid (∀ k, (Value.slice (some ⟨G1, 0, none⟩) 8 q1).ownBlock = some k → k < u3.heap.size) := fun k h => by have := (o2.lt k h).2; have := hk.2.size; omega
  have z3 := hk.2.size
  clear hk k2 c2 r2 o2
  go_wp2_with fail
  refine (N2.out u3).mono ?_
  rintro e u4 ⟨⟨v2, rfl, o4⟩, hb⟩
  obtain ⟨G2, q2, rfl, hG2, hG2'⟩ := o4.form (by omega)
  have k4 := k3.below hb
  have c4 := c3.grew hb
  have r4 := r3.below hb r3.lt
  have o34 := owned_below o3 hb
  have ap4 : Hid (∀ k, (Value.slice (some ⟨G1, 0, none⟩) 8 q1).ownBlock = some k → (Value.slice (some ⟨G2, 0, none⟩) 8 q2).ownBlock ≠ some k) := fun k h1 h2 => by have := ap3.out k h1; have := (o4.lt k h2).1; omega
  have z4 := hb.size
  clear hb k3 c3 r3 o3 ap3
  go_wp2_with fail
  refine (D3.out u4 (HC.out u4 k4) c4).mono ?_
  rintro e u5 ⟨rfl, hk⟩
  have k5 : Kept w u5 g := k4.on hk.2 (fun k h => .inl (by cases h; rfl))
  have c5 := hk.1
  have r5 := r4.grew hk.2 (by intro e; have := Option.some.inj e; omega)
  have o35 := o34.kept hk.2 (.inr (fun e => by have := (o34.lt g e).1; omega))
  have o45 := o4.kept hk.2 (.inr (fun e => by have := (o4.lt g e).1; omega))
  have R5 : EdgRows u5 u1.heap.size u5.heap.size (.slice (some ⟨G1, 0, none⟩) X0.length q1) (.slice (some ⟨G2, 0, none⟩) Y0.length q2) X0 Y0 := by
    rw [lX, lY]
    exact ⟨by rw [lX]; exact o35, by rw [lY]; exact own_mono o45 (by omega), fun e => by have := (o35.lt _ e).2; omega, fun e => by have := (o45.lt _ e).2; omega, ap4.out⟩
  have z5 := hk.2.size
  clear hk k4 c4 r4 o34 o4 ap4 o35 o45
  have bE := Blk.new u5 #[.slice (some ⟨G1, 0, none⟩) 8 q1, .slice (some ⟨G2, 0, none⟩) 8 q2, .int .i64 C0] 26
  have bb5 := (Below.refl u5.heap.size u5).alloc (Nat.le_refl _) (.cells #[.slice (some ⟨G1, 0, none⟩) 8 q1, .slice (some ⟨G2, 0, none⟩) 8 q2, .int .i64 C0] 26)
  have k6 := k5.below bb5
  have c6 := c5.grew bb5
  have r6 := r5.below bb5 r5.lt
  have R6 := R5.below bb5
  have z6 := bb5.size
  have hgu1 : g < u1.heap.size := by omega
  have hgu5 : ¬ u5.heap.size = g := by omega
  have hru5 : w.heap.size < u5.heap.size := r5.lt
  clear k5 c5 r5 R5 bb5
  go_wp2_with fail
  generalize World.alloc u5 _ = W6 at *
  refine (D4.out W6 (HC.out W6 k6) c6).mono ?_
  rintro e u7 ⟨rfl, hk⟩
  have k7 : Kept w u7 g := k6.on hk.2 (fun k h => .inl (by cases h; rfl))
  have c7 := hk.1
  have r7 := r6.grew hk.2 (by intro e; have := Option.some.inj e; omega)
  have R7 := R6.cur hk.2 hgu1
  have b7 := bE.grew hk.2 (by intro e; exact hgu5 (Option.some.inj e))
  have z7 := hk.2.size
  have hz7 : u5.heap.size < u7.heap.size := b7.lt
  rw [lX, lY] at R7
  clear hk k6 c6 r6 R6 bE
  obtain ⟨⟨e0, e1, e2⟩, f0, f1, f2⟩ := b7.three
  by_cases ht0 : t = 0
  · subst ht0
    have bb := (Below.refl u7.heap.size u7).alloc (Nat.le_refl _) (.cells #[] 3)
    have bw := (b7.below bb b7.lt)
    have b8' := (bw.set 0 (.slice (some ⟨u7.heap.size, 0, none⟩) 0 0) (by simp)).set 2 (.int .i64 (-1)) (by simp)
    have R8' := ((R7.fresh1 (by omega) hz7).grew (World.grown_at' _ u5.heap.size 0 (.slice (some ⟨u7.heap.size, 0, none⟩) 0 0))).grew (World.grown_at' _ u5.heap.size 2 (.int .i64 (-1)))
    have r8' := ((r7.below bb r7.lt).other ⟨u5.heap.size, 0, none⟩ (.slice (some ⟨u7.heap.size, 0, none⟩) 0 0) (by simp; omega)).other ⟨u5.heap.size, 2, none⟩ (.int .i64 (-1)) (by simp; omega)
    have k8' := ((k7.below bb).put (k := u5.heap.size) (j := 0) (by omega) (.slice (some ⟨u7.heap.size, 0, none⟩) 0 0)).put (k := u5.heap.size) (j := 2) (by omega) (.int .i64 (-1))
    have c8' := ((c7.grew bb).put (k := u5.heap.size) (j := 0) hgu5 (.slice (some ⟨u7.heap.size, 0, none⟩) 0 0)).put (k := u5.heap.size) (j := 2) hgu5 (.int .i64 (-1))
    obtain ⟨⟨a0, a1, a2⟩, i0', i1', i2'⟩ := bw.three
    have HZ7 : Hid (u5.heap.size < u7.heap.size) := hz7
    clear hz7 bw bb r7 k7 c7 R7 b7 e0 e1 e2 f0 f1 f2
    go_wp2_with fail
    have hz7 := HZ7.out
    generalize ((u7.alloc (.cells #[] 3)).setCell ⟨u5.heap.size, 0, none⟩ (.slice (some ⟨u7.heap.size, 0, none⟩) 0 0)).setCell ⟨u5.heap.size, 2, none⟩ (.int .i64 (-1)) = W7 at *
    refine (D5.out W7 (HC.out W7 k8') c8').mono ?_
    rintro e u8 ⟨rfl, hk⟩
    have k8 : Kept w u8 g := k8'.on hk.2 (fun k h => .inl (by cases h; rfl))
    have c8 := hk.1
    have r8 := r8'.grew hk.2 (by intro e; have := Option.some.inj e; omega)
    have R8 := R8'.cur hk.2 hgu1
    have b8 := b8'.grew hk.2 (by intro e; exact hgu5 (Option.some.inj e))
    have hz9 : u5.heap.size < u8.heap.size := b8.lt
    have hrw : w.heap.size < u8.heap.size := r8.lt
    clear hk k8' c8' r8' R8' b8'
    have HX1 : Hid (eX1 0 X0 = ([] : List Int) ∧ eY1 0 Y0 = Y0 ∧ eC1 0 C0 = -1) := ⟨by simp [eX1], by simp [eY1], by simp [eC1]⟩
    obtain ⟨⟨e0, e1, e2⟩, f0, f1, f2⟩ := b8.three
    obtain ⟨⟨y0, y1, y2⟩, h0, h1, h2⟩ := r8.three
    by_cases hu0 : u = 0
    · subst hu0
      have HFF : Hid (FX = (([] : List Int) ++ [9]) ∧ FY = Y0 ∧ FC = -1) := ⟨by rw [HXF.out, HX1.out.1]; simp [eX2], by rw [HYF.out, HX1.out.2.1]; simp [eY2], by rw [HCF.out, HX1.out.2.2]; simp [eC2]⟩
      have lx8 : (([] : List Int)).length = 0 := rfl
      clear y0 y1 y2 h0 h1 h2
      go_wp2_with (at_builtin; refine wpList_append_lies _ (by rfl) _ _ 24 (by rfl) u1.heap.size 3 i0 (.int .i64 0) 1 8 Try.underlying24 hi0 hz0 hz1 hz2 rfl (by omega) (.slice (some ⟨u7.heap.size, 0, none⟩) 0 0) 0 _ (by rfl) ((R8.one' lx8).alloc _) ⟨u8.heap.size, 0, none⟩ 1 1 [.int .i64 9] (by rfl) (by rfl) (World.news_of_block (cs := #[.int .i64 9]) (t := 3) (fr := (0, 0)) (heap_alloc_new u8 _)) (by simp [Value.oneCell']) (by omega) (by unfold maxLen; omega) (by omega) (by simp; omega) (u8.heap.size + 1) (by simp) ?_; intro gg cp w9 hown9 hgrow hat hlt9; have bb := (Below.refl u8.heap.size u8).alloc (Nat.le_refl _) (.cells #[.int .i64 9] 3); have b9 := (b8.below bb b8.lt).grew hgrow (fun e => R8.away1 e.symm); have R9 := (R8.below bb).add1' lx8 (by simp; omega) hown9 hgrow (by simpa using hat); have k9 := (k8.below bb).on hgrow (fun k h => .inr (by have := (R8.one.lt k h).1; omega)); have r9 := (r8.below bb r8.lt).grew hgrow (fun e => by have := (R8.one.lt _ e.symm).1; omega); have Rs := R9.grew (World.grown_at' w9 u5.heap.size 0 (.slice (some ⟨gg, 0, none⟩) (0 + 1) cp)); have rs := r9.other ⟨u5.heap.size, 0, none⟩ (.slice (some ⟨gg, 0, none⟩) (0 + 1) cp) (by simp; omega); have ks := k9.put (k := u5.heap.size) (j := 0) (by omega) (.slice (some ⟨gg, 0, none⟩) (0 + 1) cp); obtain ⟨⟨y0, y1, y2⟩, h0, h1, h2⟩ := b9.three; obtain ⟨⟨d0, d1, d2⟩, j0, j1, j2⟩ := r9.three; clear e0 e1 e2 f0 f1 f2 hown9 hgrow hat hlt9 bb b8 R8 k8 r8 c8 b9 R9 k9 r9)
      have rF : Hid (Blk _ _ _ _) := ((rs.set 0 (.slice (some ⟨gg, 0, none⟩) (0 + 1) cp) (by simp)).set 1 (.slice (some ⟨G2, 0, none⟩) 8 q2) (by simp)).set 2 (.int .i64 (-1)) (by simp)
      have kF : Hid (Kept w _ g) := ((ks.put (k := w.heap.size) (j := 0) (Nat.le_refl _) (.slice (some ⟨gg, 0, none⟩) (0 + 1) cp)).put (k := w.heap.size) (j := 1) (Nat.le_refl _) (.slice (some ⟨G2, 0, none⟩) 8 q2)).put (k := w.heap.size) (j := 2) (Nat.le_refl _) (.int .i64 (-1))
      have RF := ((Rs.low (World.grown_at' _ w.heap.size 0 (.slice (some ⟨gg, 0, none⟩) (0 + 1) cp)) hwu1).low (World.grown_at' _ w.heap.size 1 (.slice (some ⟨G2, 0, none⟩) 8 q2)) hwu1).low (World.grown_at' _ w.heap.size 2 (.int .i64 (-1))) hwu1
      have lFX : ((([] : List Int) ++ [9])).length = 1 := (by simp [lx8])
      have lFY : (Y0).length = 8 := lY
      have IF1 := owned_at (xs := (([] : List Int) ++ [9])) (by rw [lFX]; exact RF.one' lFX)
      have IF2 := owned_at (xs := Y0) (by rw [lFY]; exact RF.two' lFY)
      rw [← HFF.out.1] at IF1
      rw [← HFF.out.2.1] at IF2
      have IF : Hid (_ ∧ _) := ⟨IF1, IF2⟩
      have hLx : FX.length = 1 := by rw [HFF.out.1]; exact lFX
      have hLy : FY.length = 8 := by rw [HFF.out.2.1]; exact lFY
      have HLL : Hid (FX.length = 1 ∧ FY.length = 8) := ⟨hLx, hLy⟩
      clear RF Rs rs ks lFX lFY hLx hLy IF1 IF2
      (try go_wp2)
      (try simp only [Exit.inBlock, Exit.then])
      refine bodyPost_ret (results_cell_row rfl _ _ w.heap.size 26 _ (0, 0) _ rfl rF.out Try.underlying26 rfl (by kernel_rfl)) rfl ?_
      rw [HLL.out.1, HLL.out.2, HFF.out.2.2]
      exact ⟨⟨(some ⟨gg, 0, none⟩), (some ⟨G2, 0, none⟩), cp, q2, rfl, IF.out.1, IF.out.2⟩, kF.out⟩
    by_cases hu1 : u = 1
    · subst hu1
      have HFF : Hid (FX = ([] : List Int) ∧ FY = (Y0.set 3 (pick3F (-1) 256 255 x)) ∧ FC = -1) := ⟨by rw [HXF.out, HX1.out.1]; simp [eX2], by rw [HYF.out, HX1.out.2.1]; unfold eY2; rw [if_pos ⟨rfl, by rw [lY]; decide⟩], by rw [HCF.out, HX1.out.2.2]; simp [eC2]⟩
      have HE : Hid (∀ w', Blk w' u5.heap.size #[.slice (some ⟨u7.heap.size, 0, none⟩) 0 0, .slice (some ⟨G2, 0, none⟩) 8 q2, .int .i64 (-1)] 26 → (w'.cell? ⟨u5.heap.size, 0, none⟩ = some (.slice (some ⟨u7.heap.size, 0, none⟩) 0 0) ∧ w'.cell? ⟨u5.heap.size, 1, none⟩ = some (.slice (some ⟨G2, 0, none⟩) 8 q2) ∧ w'.cell? ⟨u5.heap.size, 2, none⟩ = some (.int .i64 (-1)))) := fun w' h => h.three.1
      have bl := (Below.refl u8.heap.size u8).drew.alloc (by simp) (.cells #[.int .i64 (-1), .int .i64 256, .int .i64 255] 3)
      have bq := Blk.new u8.drew #[.int .i64 (-1), .int .i64 256, .int .i64 255] 3
      have b9 := b8.below bl b8.lt
      have k9 := k8.below bl
      have c9 := c8.grew bl
      have R9 := R8.below bl
      have r9 := r8.below bl r8.lt
      have K0 := HE.out u8.drew b8.drew
      have K1 := HE.out _ b9
      have hgq : ¬ u8.drew.heap.size = g := by simp; omega
      have hag2 : ¬ G2 = u5.heap.size := fun e => R8.away2 (by rw [e]; rfl)
      have hG2u : u1.heap.size ≤ G2 := (R8.two.lt G2 rfl).1
      clear y0 y1 y2 h0 h1 h2
      go_wp2_with fail
      clear e0 e1 e2 f0 f1 f2
      go_region_held3 (fun w' => (w'.cell? ⟨u5.heap.size, 0, none⟩ = some (.slice (some ⟨u7.heap.size, 0, none⟩) 0 0) ∧ w'.cell? ⟨u5.heap.size, 1, none⟩ = some (.slice (some ⟨G2, 0, none⟩) 8 q2) ∧ w'.cell? ⟨u5.heap.size, 2, none⟩ = some (.int .i64 (-1))))
        (first | (with_reducible exact K0) | (with_reducible exact K1) | (with_reducible exact K2) | (exact K1) | (exact HE.out _ (b10.other _ _ (by simp; omega))) | (exact HE.out _ ((b10.other _ _ (by simp; omega)).drew)))
        ((go_at_call 40; refine (D6.out _ 3 (-1) 256 255 _ (HC.out _ k9) c9 bq hgq).mono ?_; rintro e u9 ⟨rfl, hr⟩; have b10 := b9.grew hr (by intro e; exact hgu5 (Option.some.inj e)); have k10 : Kept w u9 g := k9.on hr (fun k h => .inl (by cases h; rfl)); have R10 := R9.cur hr hgu1; have r10 := r9.grew hr (by intro e; have := Option.some.inj e; omega); have K2 := HE.out u9 b10; have ce := (R10.two' lY).cellAt 3 (by omega); have fe := (R10.two' lY).frozenAt 3; have ce' : u9.cell? ⟨G2, 3, none⟩ = some (.int .i64 (Y0.getD 3 0)) := (by rw [ce]; simp [List.getElem?_eq_getElem (show 3 < Y0.length by omega)]); clear hr ce))
      have R11 := R10.put2 lY 3 (pick3F (-1) 256 255 x)
      have r11 := r10.other ⟨G2, 3, none⟩ (.int .i64 (pick3F (-1) 256 255 x)) (by simp; omega)
      have k11 := k10.put (k := G2) (j := 3) (by omega) (.int .i64 (pick3F (-1) 256 255 x))
      obtain ⟨⟨y0, y1, y2⟩, h0, h1, h2⟩ := r11.three
      have b11 := b10.other ⟨G2, 3, none⟩ (.int .i64 (pick3F (-1) 256 255 x)) (by simp; omega)
      obtain ⟨⟨e0, e1, e2⟩, f0, f1, f2⟩ := b11.three
      clear b8 k8 c8 R8 r8 bl bq b9 k9 c9 R9 r9 K0 K1 K2 b10 k10 R10 r10 fe ce'
      have rF : Hid (Blk _ _ _ _) := ((r11.set 0 (.slice (some ⟨u7.heap.size, 0, none⟩) 0 0) (by simp)).set 1 (.slice (some ⟨G2, 0, none⟩) 8 q2) (by simp)).set 2 (.int .i64 (-1)) (by simp)
      have kF : Hid (Kept w _ g) := ((k11.put (k := w.heap.size) (j := 0) (Nat.le_refl _) (.slice (some ⟨u7.heap.size, 0, none⟩) 0 0)).put (k := w.heap.size) (j := 1) (Nat.le_refl _) (.slice (some ⟨G2, 0, none⟩) 8 q2)).put (k := w.heap.size) (j := 2) (Nat.le_refl _) (.int .i64 (-1))
      have RF := ((R11.low (World.grown_at' _ w.heap.size 0 (.slice (some ⟨u7.heap.size, 0, none⟩) 0 0)) hwu1).low (World.grown_at' _ w.heap.size 1 (.slice (some ⟨G2, 0, none⟩) 8 q2)) hwu1).low (World.grown_at' _ w.heap.size 2 (.int .i64 (-1))) hwu1
      have lFX : (([] : List Int)).length = 0 := rfl
      have lFY : ((Y0.set 3 (pick3F (-1) 256 255 x))).length = 8 := (by rw [List.length_set]; exact lY)
      have IF1 := owned_at (xs := ([] : List Int)) (by rw [lFX]; exact RF.one' lFX)
      have IF2 := owned_at (xs := (Y0.set 3 (pick3F (-1) 256 255 x))) (by rw [lFY]; exact RF.two' lFY)
      rw [← HFF.out.1] at IF1
      rw [← HFF.out.2.1] at IF2
      have IF : Hid (_ ∧ _) := ⟨IF1, IF2⟩
      have hLx : FX.length = 0 := by rw [HFF.out.1]; exact lFX
      have hLy : FY.length = 8 := by rw [HFF.out.2.1]; exact lFY
      have HLL : Hid (FX.length = 0 ∧ FY.length = 8) := ⟨hLx, hLy⟩
      clear RF R11 r11 k11 lFX lFY hLx hLy IF1 IF2
      go_wp2
      (try simp only [Exit.inBlock, Exit.then])
      refine bodyPost_ret (results_cell_row rfl _ _ w.heap.size 26 _ (0, 0) _ rfl rF.out Try.underlying26 rfl (by kernel_rfl)) rfl ?_
      rw [HLL.out.1, HLL.out.2, HFF.out.2.2]
      exact ⟨⟨(some ⟨u7.heap.size, 0, none⟩), (some ⟨G2, 0, none⟩), 0, q2, rfl, IF.out.1, IF.out.2⟩, kF.out⟩
    by_cases hu2 : u = 2
    · subst hu2
      obtain ⟨xp, hxp⟩ : ∃ xp, xp = pick3F (-2) 256 255 x := ⟨_, rfl⟩
      have HFF : Hid (FX = ([] : List Int) ∧ FY = Y0 ∧ FC = xp) := ⟨by rw [HXF.out, HX1.out.1]; simp [eX2], by rw [HYF.out, HX1.out.2.1]; simp [eY2], by rw [HCF.out, HX1.out.2.2, hxp]; simp [eC2]⟩
      have bl := (Below.refl u8.heap.size u8).alloc (Nat.le_refl _) (.cells #[.int .i64 (-2), .int .i64 256, .int .i64 255] 3)
      have bq := Blk.new u8 #[.int .i64 (-2), .int .i64 256, .int .i64 255] 3
      have b9 := b8.below bl b8.lt
      have k9 := k8.below bl
      have c9 := c8.grew bl
      have R9 := R8.below bl
      have r9 := r8.below bl r8.lt
      have hgq : ¬ u8.heap.size = g := by omega
      have DP : Hid (Calls _ _ _ _ _) := D6.out _ 3 (-2) 256 255 _ (HC.out _ k9) c9 bq hgq
      rw [← hxp] at DP
      clear hxp
      go_wp2_with (go_at_call 40; refine DP.out.mono ?_; rintro e u9 ⟨rfl, hr⟩; have b10 := b9.grew hr (by intro e; exact hgu5 (Option.some.inj e)); have k10 : Kept w u9 g := k9.on hr (fun k h => .inl (by cases h; rfl)); have R10 := R9.cur hr hgu1; have r10 := r9.grew hr (by intro e; have := Option.some.inj e; omega); have R11 := R10.grew (World.grown_at' u9 u5.heap.size 2 (.int .i64 xp)); have r11 := r10.other ⟨u5.heap.size, 2, none⟩ (.int .i64 xp) (by simp; omega); have k11 := k10.put (k := u5.heap.size) (j := 2) (by omega) (.int .i64 xp); obtain ⟨⟨d0, d1, d2⟩, j0, j1, j2⟩ := b10.three; obtain ⟨⟨m0, m1, m2⟩, n0, n1, n2⟩ := r10.three; clear e0 e1 e2 f0 f1 f2 y0 y1 y2 h0 h1 h2 b8 k8 c8 R8 r8 bl bq b9 k9 c9 R9 r9 b10 k10 R10 r10 hr)
      have rF : Hid (Blk _ _ _ _) := ((r11.set 0 (.slice (some ⟨u7.heap.size, 0, none⟩) 0 0) (by simp)).set 1 (.slice (some ⟨G2, 0, none⟩) 8 q2) (by simp)).set 2 (.int .i64 (xp)) (by simp)
      have kF : Hid (Kept w _ g) := ((k11.put (k := w.heap.size) (j := 0) (Nat.le_refl _) (.slice (some ⟨u7.heap.size, 0, none⟩) 0 0)).put (k := w.heap.size) (j := 1) (Nat.le_refl _) (.slice (some ⟨G2, 0, none⟩) 8 q2)).put (k := w.heap.size) (j := 2) (Nat.le_refl _) (.int .i64 (xp))
      have RF := ((R11.low (World.grown_at' _ w.heap.size 0 (.slice (some ⟨u7.heap.size, 0, none⟩) 0 0)) hwu1).low (World.grown_at' _ w.heap.size 1 (.slice (some ⟨G2, 0, none⟩) 8 q2)) hwu1).low (World.grown_at' _ w.heap.size 2 (.int .i64 (xp))) hwu1
      have lFX : (([] : List Int)).length = 0 := rfl
      have lFY : (Y0).length = 8 := lY
      have IF1 := owned_at (xs := ([] : List Int)) (by rw [lFX]; exact RF.one' lFX)
      have IF2 := owned_at (xs := Y0) (by rw [lFY]; exact RF.two' lFY)
      rw [← HFF.out.1] at IF1
      rw [← HFF.out.2.1] at IF2
      have IF : Hid (_ ∧ _) := ⟨IF1, IF2⟩
      have hLx : FX.length = 0 := by rw [HFF.out.1]; exact lFX
      have hLy : FY.length = 8 := by rw [HFF.out.2.1]; exact lFY
      have HLL : Hid (FX.length = 0 ∧ FY.length = 8) := ⟨hLx, hLy⟩
      clear RF R11 r11 k11 lFX lFY hLx hLy IF1 IF2
      (try go_wp2)
      (try simp only [Exit.inBlock, Exit.then])
      refine bodyPost_ret (results_cell_row rfl _ _ w.heap.size 26 _ (0, 0) _ rfl rF.out Try.underlying26 rfl (by kernel_rfl)) rfl ?_
      rw [HLL.out.1, HLL.out.2, HFF.out.2.2]
      exact ⟨⟨(some ⟨u7.heap.size, 0, none⟩), (some ⟨G2, 0, none⟩), 0, q2, rfl, IF.out.1, IF.out.2⟩, kF.out⟩
    have HFF : Hid (FX = ([] : List Int) ∧ FY = Y0 ∧ FC = -1) := ⟨by rw [HXF.out, HX1.out.1]; unfold eX2; rw [if_neg hu0], by rw [HYF.out, HX1.out.2.1]; unfold eY2; rw [if_neg (fun h => hu1 h.1)], by rw [HCF.out, HX1.out.2.2]; unfold eC2; rw [if_neg hu2]⟩
    have rF : Hid (Blk _ _ _ _) := ((r8.set 0 (.slice (some ⟨u7.heap.size, 0, none⟩) 0 0) (by simp)).set 1 (.slice (some ⟨G2, 0, none⟩) 8 q2) (by simp)).set 2 (.int .i64 (-1)) (by simp)
    have kF : Hid (Kept w _ g) := ((k8.put (k := w.heap.size) (j := 0) (Nat.le_refl _) (.slice (some ⟨u7.heap.size, 0, none⟩) 0 0)).put (k := w.heap.size) (j := 1) (Nat.le_refl _) (.slice (some ⟨G2, 0, none⟩) 8 q2)).put (k := w.heap.size) (j := 2) (Nat.le_refl _) (.int .i64 (-1))
    have RF := ((R8.low (World.grown_at' _ w.heap.size 0 (.slice (some ⟨u7.heap.size, 0, none⟩) 0 0)) hwu1).low (World.grown_at' _ w.heap.size 1 (.slice (some ⟨G2, 0, none⟩) 8 q2)) hwu1).low (World.grown_at' _ w.heap.size 2 (.int .i64 (-1))) hwu1
    have lFX : (([] : List Int)).length = 0 := rfl
    have lFY : (Y0).length = 8 := lY
    have IF1 := owned_at (xs := ([] : List Int)) (by rw [lFX]; exact RF.one' lFX)
    have IF2 := owned_at (xs := Y0) (by rw [lFY]; exact RF.two' lFY)
    rw [← HFF.out.1] at IF1
    rw [← HFF.out.2.1] at IF2
    have IF : Hid (_ ∧ _) := ⟨IF1, IF2⟩
    have hLx : FX.length = 0 := by rw [HFF.out.1]; exact lFX
    have hLy : FY.length = 8 := by rw [HFF.out.2.1]; exact lFY
    have HLL : Hid (FX.length = 0 ∧ FY.length = 8) := ⟨hLx, hLy⟩
    clear RF R8 r8 k8 lFX lFY hLx hLy IF1 IF2
    go_wp2
    (try simp only [Exit.inBlock, Exit.then])
    refine bodyPost_ret (results_cell_row rfl _ _ w.heap.size 26 _ (0, 0) _ rfl rF.out Try.underlying26 rfl (by kernel_rfl)) rfl ?_
    rw [HLL.out.1, HLL.out.2, HFF.out.2.2]
    exact ⟨⟨(some ⟨u7.heap.size, 0, none⟩), (some ⟨G2, 0, none⟩), 0, q2, rfl, IF.out.1, IF.out.2⟩, kF.out⟩
  by_cases ht1 : t = 1
  · subst ht1
    have bb := (Below.refl u7.heap.size u7).alloc (Nat.le_refl _) (.cells #[] 3)
    have bw := (b7.below bb b7.lt)
    have b8' := (bw.set 1 (.slice (some ⟨u7.heap.size, 0, none⟩) 0 0) (by simp)).set 2 (.int .i64 (-1)) (by simp)
    have R8' := ((R7.fresh2 (by omega) hz7).grew (World.grown_at' _ u5.heap.size 1 (.slice (some ⟨u7.heap.size, 0, none⟩) 0 0))).grew (World.grown_at' _ u5.heap.size 2 (.int .i64 (-1)))
    have r8' := ((r7.below bb r7.lt).other ⟨u5.heap.size, 1, none⟩ (.slice (some ⟨u7.heap.size, 0, none⟩) 0 0) (by simp; omega)).other ⟨u5.heap.size, 2, none⟩ (.int .i64 (-1)) (by simp; omega)
    have k8' := ((k7.below bb).put (k := u5.heap.size) (j := 1) (by omega) (.slice (some ⟨u7.heap.size, 0, none⟩) 0 0)).put (k := u5.heap.size) (j := 2) (by omega) (.int .i64 (-1))
    have c8' := ((c7.grew bb).put (k := u5.heap.size) (j := 1) hgu5 (.slice (some ⟨u7.heap.size, 0, none⟩) 0 0)).put (k := u5.heap.size) (j := 2) hgu5 (.int .i64 (-1))
    obtain ⟨⟨a0, a1, a2⟩, i0', i1', i2'⟩ := bw.three
    have HZ7 : Hid (u5.heap.size < u7.heap.size) := hz7
    clear hz7 bw bb r7 k7 c7 R7 b7 e0 e1 e2 f0 f1 f2
    go_wp2_with fail
    have hz7 := HZ7.out
    generalize ((u7.alloc (.cells #[] 3)).setCell ⟨u5.heap.size, 1, none⟩ (.slice (some ⟨u7.heap.size, 0, none⟩) 0 0)).setCell ⟨u5.heap.size, 2, none⟩ (.int .i64 (-1)) = W7 at *
    refine (D5.out W7 (HC.out W7 k8') c8').mono ?_
    rintro e u8 ⟨rfl, hk⟩
    have k8 : Kept w u8 g := k8'.on hk.2 (fun k h => .inl (by cases h; rfl))
    have c8 := hk.1
    have r8 := r8'.grew hk.2 (by intro e; have := Option.some.inj e; omega)
    have R8 := R8'.cur hk.2 hgu1
    have b8 := b8'.grew hk.2 (by intro e; exact hgu5 (Option.some.inj e))
    have hz9 : u5.heap.size < u8.heap.size := b8.lt
    have hrw : w.heap.size < u8.heap.size := r8.lt
    clear hk k8' c8' r8' R8' b8'
    have HX1 : Hid (eX1 1 X0 = X0 ∧ eY1 1 Y0 = ([] : List Int) ∧ eC1 1 C0 = -1) := ⟨by simp [eX1], by simp [eY1], by simp [eC1]⟩
    obtain ⟨⟨e0, e1, e2⟩, f0, f1, f2⟩ := b8.three
    obtain ⟨⟨y0, y1, y2⟩, h0, h1, h2⟩ := r8.three
    by_cases hu0 : u = 0
    · subst hu0
      have HFF : Hid (FX = (X0 ++ [9]) ∧ FY = ([] : List Int) ∧ FC = -1) := ⟨by rw [HXF.out, HX1.out.1]; simp [eX2], by rw [HYF.out, HX1.out.2.1]; simp [eY2], by rw [HCF.out, HX1.out.2.2]; simp [eC2]⟩
      have lx8 : (X0).length = 8 := lX
      clear y0 y1 y2 h0 h1 h2
      go_wp2_with (at_builtin; refine wpList_append_lies _ (by rfl) _ _ 24 (by rfl) u1.heap.size 3 i0 (.int .i64 0) 1 8 Try.underlying24 hi0 hz0 hz1 hz2 rfl (by omega) (.slice (some ⟨G1, 0, none⟩) 8 q1) 8 _ (by rfl) ((R8.one' lx8).alloc _) ⟨u8.heap.size, 0, none⟩ 1 1 [.int .i64 9] (by rfl) (by rfl) (World.news_of_block (cs := #[.int .i64 9]) (t := 3) (fr := (0, 0)) (heap_alloc_new u8 _)) (by simp [Value.oneCell']) (by omega) (by unfold maxLen; omega) (by omega) (by simp; omega) (u8.heap.size + 1) (by simp) ?_; intro gg cp w9 hown9 hgrow hat hlt9; have bb := (Below.refl u8.heap.size u8).alloc (Nat.le_refl _) (.cells #[.int .i64 9] 3); have b9 := (b8.below bb b8.lt).grew hgrow (fun e => R8.away1 e.symm); have R9 := (R8.below bb).add1' lx8 (by simp; omega) hown9 hgrow (by simpa using hat); have k9 := (k8.below bb).on hgrow (fun k h => .inr (by have := (R8.one.lt k h).1; omega)); have r9 := (r8.below bb r8.lt).grew hgrow (fun e => by have := (R8.one.lt _ e.symm).1; omega); have Rs := R9.grew (World.grown_at' w9 u5.heap.size 0 (.slice (some ⟨gg, 0, none⟩) (8 + 1) cp)); have rs := r9.other ⟨u5.heap.size, 0, none⟩ (.slice (some ⟨gg, 0, none⟩) (8 + 1) cp) (by simp; omega); have ks := k9.put (k := u5.heap.size) (j := 0) (by omega) (.slice (some ⟨gg, 0, none⟩) (8 + 1) cp); obtain ⟨⟨y0, y1, y2⟩, h0, h1, h2⟩ := b9.three; obtain ⟨⟨d0, d1, d2⟩, j0, j1, j2⟩ := r9.three; clear e0 e1 e2 f0 f1 f2 hown9 hgrow hat hlt9 bb b8 R8 k8 r8 c8 b9 R9 k9 r9)
      have rF : Hid (Blk _ _ _ _) := ((rs.set 0 (.slice (some ⟨gg, 0, none⟩) (8 + 1) cp) (by simp)).set 1 (.slice (some ⟨u7.heap.size, 0, none⟩) 0 0) (by simp)).set 2 (.int .i64 (-1)) (by simp)
      have kF : Hid (Kept w _ g) := ((ks.put (k := w.heap.size) (j := 0) (Nat.le_refl _) (.slice (some ⟨gg, 0, none⟩) (8 + 1) cp)).put (k := w.heap.size) (j := 1) (Nat.le_refl _) (.slice (some ⟨u7.heap.size, 0, none⟩) 0 0)).put (k := w.heap.size) (j := 2) (Nat.le_refl _) (.int .i64 (-1))
      have RF := ((Rs.low (World.grown_at' _ w.heap.size 0 (.slice (some ⟨gg, 0, none⟩) (8 + 1) cp)) hwu1).low (World.grown_at' _ w.heap.size 1 (.slice (some ⟨u7.heap.size, 0, none⟩) 0 0)) hwu1).low (World.grown_at' _ w.heap.size 2 (.int .i64 (-1))) hwu1
      have lFX : ((X0 ++ [9])).length = 9 := (by simp [lx8])
      have lFY : (([] : List Int)).length = 0 := rfl
      have IF1 := owned_at (xs := (X0 ++ [9])) (by rw [lFX]; exact RF.one' lFX)
      have IF2 := owned_at (xs := ([] : List Int)) (by rw [lFY]; exact RF.two' lFY)
      rw [← HFF.out.1] at IF1
      rw [← HFF.out.2.1] at IF2
      have IF : Hid (_ ∧ _) := ⟨IF1, IF2⟩
      have hLx : FX.length = 9 := by rw [HFF.out.1]; exact lFX
      have hLy : FY.length = 0 := by rw [HFF.out.2.1]; exact lFY
      have HLL : Hid (FX.length = 9 ∧ FY.length = 0) := ⟨hLx, hLy⟩
      clear RF Rs rs ks lFX lFY hLx hLy IF1 IF2
      (try go_wp2)
      (try simp only [Exit.inBlock, Exit.then])
      refine bodyPost_ret (results_cell_row rfl _ _ w.heap.size 26 _ (0, 0) _ rfl rF.out Try.underlying26 rfl (by kernel_rfl)) rfl ?_
      rw [HLL.out.1, HLL.out.2, HFF.out.2.2]
      exact ⟨⟨(some ⟨gg, 0, none⟩), (some ⟨u7.heap.size, 0, none⟩), cp, 0, rfl, IF.out.1, IF.out.2⟩, kF.out⟩
    by_cases hu1 : u = 1
    · subst hu1
      have HFF : Hid (FX = X0 ∧ FY = ([] : List Int) ∧ FC = -1) := ⟨by rw [HXF.out, HX1.out.1]; simp [eX2], by rw [HYF.out, HX1.out.2.1]; simp [eY2], by rw [HCF.out, HX1.out.2.2]; simp [eC2]⟩
      have rF : Hid (Blk _ _ _ _) := ((r8.set 0 (.slice (some ⟨G1, 0, none⟩) 8 q1) (by simp)).set 1 (.slice (some ⟨u7.heap.size, 0, none⟩) 0 0) (by simp)).set 2 (.int .i64 (-1)) (by simp)
      have kF : Hid (Kept w _ g) := ((k8.put (k := w.heap.size) (j := 0) (Nat.le_refl _) (.slice (some ⟨G1, 0, none⟩) 8 q1)).put (k := w.heap.size) (j := 1) (Nat.le_refl _) (.slice (some ⟨u7.heap.size, 0, none⟩) 0 0)).put (k := w.heap.size) (j := 2) (Nat.le_refl _) (.int .i64 (-1))
      have RF := ((R8.low (World.grown_at' _ w.heap.size 0 (.slice (some ⟨G1, 0, none⟩) 8 q1)) hwu1).low (World.grown_at' _ w.heap.size 1 (.slice (some ⟨u7.heap.size, 0, none⟩) 0 0)) hwu1).low (World.grown_at' _ w.heap.size 2 (.int .i64 (-1))) hwu1
      have lFX : (X0).length = 8 := lX
      have lFY : (([] : List Int)).length = 0 := rfl
      have IF1 := owned_at (xs := X0) (by rw [lFX]; exact RF.one' lFX)
      have IF2 := owned_at (xs := ([] : List Int)) (by rw [lFY]; exact RF.two' lFY)
      rw [← HFF.out.1] at IF1
      rw [← HFF.out.2.1] at IF2
      have IF : Hid (_ ∧ _) := ⟨IF1, IF2⟩
      have hLx : FX.length = 8 := by rw [HFF.out.1]; exact lFX
      have hLy : FY.length = 0 := by rw [HFF.out.2.1]; exact lFY
      have HLL : Hid (FX.length = 8 ∧ FY.length = 0) := ⟨hLx, hLy⟩
      clear RF R8 r8 k8 lFX lFY hLx hLy IF1 IF2
      go_wp2
      (try simp only [Exit.inBlock, Exit.then])
      refine bodyPost_ret (results_cell_row rfl _ _ w.heap.size 26 _ (0, 0) _ rfl rF.out Try.underlying26 rfl (by kernel_rfl)) rfl ?_
      rw [HLL.out.1, HLL.out.2, HFF.out.2.2]
      exact ⟨⟨(some ⟨G1, 0, none⟩), (some ⟨u7.heap.size, 0, none⟩), q1, 0, rfl, IF.out.1, IF.out.2⟩, kF.out⟩
    by_cases hu2 : u = 2
    · subst hu2
      obtain ⟨xp, hxp⟩ : ∃ xp, xp = pick3F (-2) 256 255 x := ⟨_, rfl⟩
      have HFF : Hid (FX = X0 ∧ FY = ([] : List Int) ∧ FC = xp) := ⟨by rw [HXF.out, HX1.out.1]; simp [eX2], by rw [HYF.out, HX1.out.2.1]; simp [eY2], by rw [HCF.out, HX1.out.2.2, hxp]; simp [eC2]⟩
      have bl := (Below.refl u8.heap.size u8).alloc (Nat.le_refl _) (.cells #[.int .i64 (-2), .int .i64 256, .int .i64 255] 3)
      have bq := Blk.new u8 #[.int .i64 (-2), .int .i64 256, .int .i64 255] 3
      have b9 := b8.below bl b8.lt
      have k9 := k8.below bl
      have c9 := c8.grew bl
      have R9 := R8.below bl
      have r9 := r8.below bl r8.lt
      have hgq : ¬ u8.heap.size = g := by omega
      have DP : Hid (Calls _ _ _ _ _) := D6.out _ 3 (-2) 256 255 _ (HC.out _ k9) c9 bq hgq
      rw [← hxp] at DP
      clear hxp
      go_wp2_with (go_at_call 40; refine DP.out.mono ?_; rintro e u9 ⟨rfl, hr⟩; have b10 := b9.grew hr (by intro e; exact hgu5 (Option.some.inj e)); have k10 : Kept w u9 g := k9.on hr (fun k h => .inl (by cases h; rfl)); have R10 := R9.cur hr hgu1; have r10 := r9.grew hr (by intro e; have := Option.some.inj e; omega); have R11 := R10.grew (World.grown_at' u9 u5.heap.size 2 (.int .i64 xp)); have r11 := r10.other ⟨u5.heap.size, 2, none⟩ (.int .i64 xp) (by simp; omega); have k11 := k10.put (k := u5.heap.size) (j := 2) (by omega) (.int .i64 xp); obtain ⟨⟨d0, d1, d2⟩, j0, j1, j2⟩ := b10.three; obtain ⟨⟨m0, m1, m2⟩, n0, n1, n2⟩ := r10.three; clear e0 e1 e2 f0 f1 f2 y0 y1 y2 h0 h1 h2 b8 k8 c8 R8 r8 bl bq b9 k9 c9 R9 r9 b10 k10 R10 r10 hr)
      have rF : Hid (Blk _ _ _ _) := ((r11.set 0 (.slice (some ⟨G1, 0, none⟩) 8 q1) (by simp)).set 1 (.slice (some ⟨u7.heap.size, 0, none⟩) 0 0) (by simp)).set 2 (.int .i64 (xp)) (by simp)
      have kF : Hid (Kept w _ g) := ((k11.put (k := w.heap.size) (j := 0) (Nat.le_refl _) (.slice (some ⟨G1, 0, none⟩) 8 q1)).put (k := w.heap.size) (j := 1) (Nat.le_refl _) (.slice (some ⟨u7.heap.size, 0, none⟩) 0 0)).put (k := w.heap.size) (j := 2) (Nat.le_refl _) (.int .i64 (xp))
      have RF := ((R11.low (World.grown_at' _ w.heap.size 0 (.slice (some ⟨G1, 0, none⟩) 8 q1)) hwu1).low (World.grown_at' _ w.heap.size 1 (.slice (some ⟨u7.heap.size, 0, none⟩) 0 0)) hwu1).low (World.grown_at' _ w.heap.size 2 (.int .i64 (xp))) hwu1
      have lFX : (X0).length = 8 := lX
      have lFY : (([] : List Int)).length = 0 := rfl
      have IF1 := owned_at (xs := X0) (by rw [lFX]; exact RF.one' lFX)
      have IF2 := owned_at (xs := ([] : List Int)) (by rw [lFY]; exact RF.two' lFY)
      rw [← HFF.out.1] at IF1
      rw [← HFF.out.2.1] at IF2
      have IF : Hid (_ ∧ _) := ⟨IF1, IF2⟩
      have hLx : FX.length = 8 := by rw [HFF.out.1]; exact lFX
      have hLy : FY.length = 0 := by rw [HFF.out.2.1]; exact lFY
      have HLL : Hid (FX.length = 8 ∧ FY.length = 0) := ⟨hLx, hLy⟩
      clear RF R11 r11 k11 lFX lFY hLx hLy IF1 IF2
      (try go_wp2)
      (try simp only [Exit.inBlock, Exit.then])
      refine bodyPost_ret (results_cell_row rfl _ _ w.heap.size 26 _ (0, 0) _ rfl rF.out Try.underlying26 rfl (by kernel_rfl)) rfl ?_
      rw [HLL.out.1, HLL.out.2, HFF.out.2.2]
      exact ⟨⟨(some ⟨G1, 0, none⟩), (some ⟨u7.heap.size, 0, none⟩), q1, 0, rfl, IF.out.1, IF.out.2⟩, kF.out⟩
    have HFF : Hid (FX = X0 ∧ FY = ([] : List Int) ∧ FC = -1) := ⟨by rw [HXF.out, HX1.out.1]; unfold eX2; rw [if_neg hu0], by rw [HYF.out, HX1.out.2.1]; unfold eY2; rw [if_neg (fun h => hu1 h.1)], by rw [HCF.out, HX1.out.2.2]; unfold eC2; rw [if_neg hu2]⟩
    have rF : Hid (Blk _ _ _ _) := ((r8.set 0 (.slice (some ⟨G1, 0, none⟩) 8 q1) (by simp)).set 1 (.slice (some ⟨u7.heap.size, 0, none⟩) 0 0) (by simp)).set 2 (.int .i64 (-1)) (by simp)
    have kF : Hid (Kept w _ g) := ((k8.put (k := w.heap.size) (j := 0) (Nat.le_refl _) (.slice (some ⟨G1, 0, none⟩) 8 q1)).put (k := w.heap.size) (j := 1) (Nat.le_refl _) (.slice (some ⟨u7.heap.size, 0, none⟩) 0 0)).put (k := w.heap.size) (j := 2) (Nat.le_refl _) (.int .i64 (-1))
    have RF := ((R8.low (World.grown_at' _ w.heap.size 0 (.slice (some ⟨G1, 0, none⟩) 8 q1)) hwu1).low (World.grown_at' _ w.heap.size 1 (.slice (some ⟨u7.heap.size, 0, none⟩) 0 0)) hwu1).low (World.grown_at' _ w.heap.size 2 (.int .i64 (-1))) hwu1
    have lFX : (X0).length = 8 := lX
    have lFY : (([] : List Int)).length = 0 := rfl
    have IF1 := owned_at (xs := X0) (by rw [lFX]; exact RF.one' lFX)
    have IF2 := owned_at (xs := ([] : List Int)) (by rw [lFY]; exact RF.two' lFY)
    rw [← HFF.out.1] at IF1
    rw [← HFF.out.2.1] at IF2
    have IF : Hid (_ ∧ _) := ⟨IF1, IF2⟩
    have hLx : FX.length = 8 := by rw [HFF.out.1]; exact lFX
    have hLy : FY.length = 0 := by rw [HFF.out.2.1]; exact lFY
    have HLL : Hid (FX.length = 8 ∧ FY.length = 0) := ⟨hLx, hLy⟩
    clear RF R8 r8 k8 lFX lFY hLx hLy IF1 IF2
    go_wp2
    (try simp only [Exit.inBlock, Exit.then])
    refine bodyPost_ret (results_cell_row rfl _ _ w.heap.size 26 _ (0, 0) _ rfl rF.out Try.underlying26 rfl (by kernel_rfl)) rfl ?_
    rw [HLL.out.1, HLL.out.2, HFF.out.2.2]
    exact ⟨⟨(some ⟨G1, 0, none⟩), (some ⟨u7.heap.size, 0, none⟩), q1, 0, rfl, IF.out.1, IF.out.2⟩, kF.out⟩
  by_cases ht2 : t = 2
  · subst ht2
    have b8' := ((b7.set 0 (.slice none 0 0) (by simp)).set 1 (.slice none 0 0) (by simp)).set 2 (.int .i64 (-1)) (by simp)
    have R8' := edgRows_nil (((u7.setCell ⟨u5.heap.size, 0, none⟩ (.slice none 0 0)).setCell ⟨u5.heap.size, 1, none⟩ (.slice none 0 0)).setCell ⟨u5.heap.size, 2, none⟩ (.int .i64 (-1))) u1.heap.size u5.heap.size
    have r8' := ((r7.other ⟨u5.heap.size, 0, none⟩ (.slice none 0 0) (by simp; omega)).other ⟨u5.heap.size, 1, none⟩ (.slice none 0 0) (by simp; omega)).other ⟨u5.heap.size, 2, none⟩ (.int .i64 (-1)) (by simp; omega)
    have k8' := ((k7.put (k := u5.heap.size) (j := 0) (by omega) (.slice none 0 0)).put (k := u5.heap.size) (j := 1) (by omega) (.slice none 0 0)).put (k := u5.heap.size) (j := 2) (by omega) (.int .i64 (-1))
    have c8' := ((c7.put (k := u5.heap.size) (j := 0) hgu5 (.slice none 0 0)).put (k := u5.heap.size) (j := 1) hgu5 (.slice none 0 0)).put (k := u5.heap.size) (j := 2) hgu5 (.int .i64 (-1))
    clear r7 k7 c7 R7 b7
    go_wp2_with fail
    generalize ((u7.setCell ⟨u5.heap.size, 0, none⟩ (.slice none 0 0)).setCell ⟨u5.heap.size, 1, none⟩ (.slice none 0 0)).setCell ⟨u5.heap.size, 2, none⟩ (.int .i64 (-1)) = W7 at *
    refine (D5.out W7 (HC.out W7 k8') c8').mono ?_
    rintro e u8 ⟨rfl, hk⟩
    have k8 : Kept w u8 g := k8'.on hk.2 (fun k h => .inl (by cases h; rfl))
    have c8 := hk.1
    have r8 := r8'.grew hk.2 (by intro e; have := Option.some.inj e; omega)
    have R8 := R8'.cur hk.2 hgu1
    have b8 := b8'.grew hk.2 (by intro e; exact hgu5 (Option.some.inj e))
    have hz9 : u5.heap.size < u8.heap.size := b8.lt
    have hrw : w.heap.size < u8.heap.size := r8.lt
    clear hk k8' c8' r8' R8' b8'
    have HX1 : Hid (eX1 2 X0 = ([] : List Int) ∧ eY1 2 Y0 = ([] : List Int) ∧ eC1 2 C0 = -1) := ⟨by simp [eX1], by simp [eY1], by simp [eC1]⟩
    obtain ⟨⟨e0, e1, e2⟩, f0, f1, f2⟩ := b8.three
    obtain ⟨⟨y0, y1, y2⟩, h0, h1, h2⟩ := r8.three
    by_cases hu0 : u = 0
    · subst hu0
      have HFF : Hid (FX = (([] : List Int) ++ [9]) ∧ FY = ([] : List Int) ∧ FC = -1) := ⟨by rw [HXF.out, HX1.out.1]; simp [eX2], by rw [HYF.out, HX1.out.2.1]; simp [eY2], by rw [HCF.out, HX1.out.2.2]; simp [eC2]⟩
      have lx8 : (([] : List Int)).length = 0 := rfl
      clear y0 y1 y2 h0 h1 h2
      go_wp2_with (at_builtin; refine wpList_append_lies _ (by rfl) _ _ 24 (by rfl) u1.heap.size 3 i0 (.int .i64 0) 1 8 Try.underlying24 hi0 hz0 hz1 hz2 rfl (by omega) (.slice none 0 0) 0 _ (by rfl) ((R8.one' lx8).alloc _) ⟨u8.heap.size, 0, none⟩ 1 1 [.int .i64 9] (by rfl) (by rfl) (World.news_of_block (cs := #[.int .i64 9]) (t := 3) (fr := (0, 0)) (heap_alloc_new u8 _)) (by simp [Value.oneCell']) (by omega) (by unfold maxLen; omega) (by omega) (by simp; omega) (u8.heap.size + 1) (by simp) ?_; intro gg cp w9 hown9 hgrow hat hlt9; have bb := (Below.refl u8.heap.size u8).alloc (Nat.le_refl _) (.cells #[.int .i64 9] 3); have b9 := (b8.below bb b8.lt).grew hgrow (fun e => R8.away1 e.symm); have R9 := (R8.below bb).add1' lx8 (by simp; omega) hown9 hgrow (by simpa using hat); have k9 := (k8.below bb).on hgrow (fun k h => .inr (by have := (R8.one.lt k h).1; omega)); have r9 := (r8.below bb r8.lt).grew hgrow (fun e => by have := (R8.one.lt _ e.symm).1; omega); have Rs := R9.grew (World.grown_at' w9 u5.heap.size 0 (.slice (some ⟨gg, 0, none⟩) (0 + 1) cp)); have rs := r9.other ⟨u5.heap.size, 0, none⟩ (.slice (some ⟨gg, 0, none⟩) (0 + 1) cp) (by simp; omega); have ks := k9.put (k := u5.heap.size) (j := 0) (by omega) (.slice (some ⟨gg, 0, none⟩) (0 + 1) cp); obtain ⟨⟨y0, y1, y2⟩, h0, h1, h2⟩ := b9.three; obtain ⟨⟨d0, d1, d2⟩, j0, j1, j2⟩ := r9.three; clear e0 e1 e2 f0 f1 f2 hown9 hgrow hat hlt9 bb b8 R8 k8 r8 c8 b9 R9 k9 r9)
      have rF : Hid (Blk _ _ _ _) := ((rs.set 0 (.slice (some ⟨gg, 0, none⟩) (0 + 1) cp) (by simp)).set 1 (.slice none 0 0) (by simp)).set 2 (.int .i64 (-1)) (by simp)
      have kF : Hid (Kept w _ g) := ((ks.put (k := w.heap.size) (j := 0) (Nat.le_refl _) (.slice (some ⟨gg, 0, none⟩) (0 + 1) cp)).put (k := w.heap.size) (j := 1) (Nat.le_refl _) (.slice none 0 0)).put (k := w.heap.size) (j := 2) (Nat.le_refl _) (.int .i64 (-1))
      have RF := ((Rs.low (World.grown_at' _ w.heap.size 0 (.slice (some ⟨gg, 0, none⟩) (0 + 1) cp)) hwu1).low (World.grown_at' _ w.heap.size 1 (.slice none 0 0)) hwu1).low (World.grown_at' _ w.heap.size 2 (.int .i64 (-1))) hwu1
      have lFX : ((([] : List Int) ++ [9])).length = 1 := (by simp [lx8])
      have lFY : (([] : List Int)).length = 0 := rfl
      have IF1 := owned_at (xs := (([] : List Int) ++ [9])) (by rw [lFX]; exact RF.one' lFX)
      have IF2 := owned_at (xs := ([] : List Int)) (by rw [lFY]; exact RF.two' lFY)
      rw [← HFF.out.1] at IF1
      rw [← HFF.out.2.1] at IF2
      have IF : Hid (_ ∧ _) := ⟨IF1, IF2⟩
      have hLx : FX.length = 1 := by rw [HFF.out.1]; exact lFX
      have hLy : FY.length = 0 := by rw [HFF.out.2.1]; exact lFY
      have HLL : Hid (FX.length = 1 ∧ FY.length = 0) := ⟨hLx, hLy⟩
      clear RF Rs rs ks lFX lFY hLx hLy IF1 IF2
      (try go_wp2)
      (try simp only [Exit.inBlock, Exit.then])
      refine bodyPost_ret (results_cell_row rfl _ _ w.heap.size 26 _ (0, 0) _ rfl rF.out Try.underlying26 rfl (by kernel_rfl)) rfl ?_
      rw [HLL.out.1, HLL.out.2, HFF.out.2.2]
      exact ⟨⟨(some ⟨gg, 0, none⟩), none, cp, 0, rfl, IF.out.1, IF.out.2⟩, kF.out⟩
    by_cases hu1 : u = 1
    · subst hu1
      have HFF : Hid (FX = ([] : List Int) ∧ FY = ([] : List Int) ∧ FC = -1) := ⟨by rw [HXF.out, HX1.out.1]; simp [eX2], by rw [HYF.out, HX1.out.2.1]; simp [eY2], by rw [HCF.out, HX1.out.2.2]; simp [eC2]⟩
      have rF : Hid (Blk _ _ _ _) := ((r8.set 0 (.slice none 0 0) (by simp)).set 1 (.slice none 0 0) (by simp)).set 2 (.int .i64 (-1)) (by simp)
      have kF : Hid (Kept w _ g) := ((k8.put (k := w.heap.size) (j := 0) (Nat.le_refl _) (.slice none 0 0)).put (k := w.heap.size) (j := 1) (Nat.le_refl _) (.slice none 0 0)).put (k := w.heap.size) (j := 2) (Nat.le_refl _) (.int .i64 (-1))
      have RF := ((R8.low (World.grown_at' _ w.heap.size 0 (.slice none 0 0)) hwu1).low (World.grown_at' _ w.heap.size 1 (.slice none 0 0)) hwu1).low (World.grown_at' _ w.heap.size 2 (.int .i64 (-1))) hwu1
      have lFX : (([] : List Int)).length = 0 := rfl
      have lFY : (([] : List Int)).length = 0 := rfl
      have IF1 := owned_at (xs := ([] : List Int)) (by rw [lFX]; exact RF.one' lFX)
      have IF2 := owned_at (xs := ([] : List Int)) (by rw [lFY]; exact RF.two' lFY)
      rw [← HFF.out.1] at IF1
      rw [← HFF.out.2.1] at IF2
      have IF : Hid (_ ∧ _) := ⟨IF1, IF2⟩
      have hLx : FX.length = 0 := by rw [HFF.out.1]; exact lFX
      have hLy : FY.length = 0 := by rw [HFF.out.2.1]; exact lFY
      have HLL : Hid (FX.length = 0 ∧ FY.length = 0) := ⟨hLx, hLy⟩
      clear RF R8 r8 k8 lFX lFY hLx hLy IF1 IF2
      go_wp2
      (try simp only [Exit.inBlock, Exit.then])
      refine bodyPost_ret (results_cell_row rfl _ _ w.heap.size 26 _ (0, 0) _ rfl rF.out Try.underlying26 rfl (by kernel_rfl)) rfl ?_
      rw [HLL.out.1, HLL.out.2, HFF.out.2.2]
      exact ⟨⟨none, none, 0, 0, rfl, IF.out.1, IF.out.2⟩, kF.out⟩
    by_cases hu2 : u = 2
    · subst hu2
      obtain ⟨xp, hxp⟩ : ∃ xp, xp = pick3F (-2) 256 255 x := ⟨_, rfl⟩
      have HFF : Hid (FX = ([] : List Int) ∧ FY = ([] : List Int) ∧ FC = xp) := ⟨by rw [HXF.out, HX1.out.1]; simp [eX2], by rw [HYF.out, HX1.out.2.1]; simp [eY2], by rw [HCF.out, HX1.out.2.2, hxp]; simp [eC2]⟩
      have bl := (Below.refl u8.heap.size u8).alloc (Nat.le_refl _) (.cells #[.int .i64 (-2), .int .i64 256, .int .i64 255] 3)
      have bq := Blk.new u8 #[.int .i64 (-2), .int .i64 256, .int .i64 255] 3
      have b9 := b8.below bl b8.lt
      have k9 := k8.below bl
      have c9 := c8.grew bl
      have R9 := R8.below bl
      have r9 := r8.below bl r8.lt
      have hgq : ¬ u8.heap.size = g := by omega
      have DP : Hid (Calls _ _ _ _ _) := D6.out _ 3 (-2) 256 255 _ (HC.out _ k9) c9 bq hgq
      rw [← hxp] at DP
      clear hxp
      go_wp2_with (go_at_call 40; refine DP.out.mono ?_; rintro e u9 ⟨rfl, hr⟩; have b10 := b9.grew hr (by intro e; exact hgu5 (Option.some.inj e)); have k10 : Kept w u9 g := k9.on hr (fun k h => .inl (by cases h; rfl)); have R10 := R9.cur hr hgu1; have r10 := r9.grew hr (by intro e; have := Option.some.inj e; omega); have R11 := R10.grew (World.grown_at' u9 u5.heap.size 2 (.int .i64 xp)); have r11 := r10.other ⟨u5.heap.size, 2, none⟩ (.int .i64 xp) (by simp; omega); have k11 := k10.put (k := u5.heap.size) (j := 2) (by omega) (.int .i64 xp); obtain ⟨⟨d0, d1, d2⟩, j0, j1, j2⟩ := b10.three; obtain ⟨⟨m0, m1, m2⟩, n0, n1, n2⟩ := r10.three; clear e0 e1 e2 f0 f1 f2 y0 y1 y2 h0 h1 h2 b8 k8 c8 R8 r8 bl bq b9 k9 c9 R9 r9 b10 k10 R10 r10 hr)
      have rF : Hid (Blk _ _ _ _) := ((r11.set 0 (.slice none 0 0) (by simp)).set 1 (.slice none 0 0) (by simp)).set 2 (.int .i64 (xp)) (by simp)
      have kF : Hid (Kept w _ g) := ((k11.put (k := w.heap.size) (j := 0) (Nat.le_refl _) (.slice none 0 0)).put (k := w.heap.size) (j := 1) (Nat.le_refl _) (.slice none 0 0)).put (k := w.heap.size) (j := 2) (Nat.le_refl _) (.int .i64 (xp))
      have RF := ((R11.low (World.grown_at' _ w.heap.size 0 (.slice none 0 0)) hwu1).low (World.grown_at' _ w.heap.size 1 (.slice none 0 0)) hwu1).low (World.grown_at' _ w.heap.size 2 (.int .i64 (xp))) hwu1
      have lFX : (([] : List Int)).length = 0 := rfl
      have lFY : (([] : List Int)).length = 0 := rfl
      have IF1 := owned_at (xs := ([] : List Int)) (by rw [lFX]; exact RF.one' lFX)
      have IF2 := owned_at (xs := ([] : List Int)) (by rw [lFY]; exact RF.two' lFY)
      rw [← HFF.out.1] at IF1
      rw [← HFF.out.2.1] at IF2
      have IF : Hid (_ ∧ _) := ⟨IF1, IF2⟩
      have hLx : FX.length = 0 := by rw [HFF.out.1]; exact lFX
      have hLy : FY.length = 0 := by rw [HFF.out.2.1]; exact lFY
      have HLL : Hid (FX.length = 0 ∧ FY.length = 0) := ⟨hLx, hLy⟩
      clear RF R11 r11 k11 lFX lFY hLx hLy IF1 IF2
      (try go_wp2)
      (try simp only [Exit.inBlock, Exit.then])
      refine bodyPost_ret (results_cell_row rfl _ _ w.heap.size 26 _ (0, 0) _ rfl rF.out Try.underlying26 rfl (by kernel_rfl)) rfl ?_
      rw [HLL.out.1, HLL.out.2, HFF.out.2.2]
      exact ⟨⟨none, none, 0, 0, rfl, IF.out.1, IF.out.2⟩, kF.out⟩
    have HFF : Hid (FX = ([] : List Int) ∧ FY = ([] : List Int) ∧ FC = -1) := ⟨by rw [HXF.out, HX1.out.1]; unfold eX2; rw [if_neg hu0], by rw [HYF.out, HX1.out.2.1]; unfold eY2; rw [if_neg (fun h => hu1 h.1)], by rw [HCF.out, HX1.out.2.2]; unfold eC2; rw [if_neg hu2]⟩
    have rF : Hid (Blk _ _ _ _) := ((r8.set 0 (.slice none 0 0) (by simp)).set 1 (.slice none 0 0) (by simp)).set 2 (.int .i64 (-1)) (by simp)
    have kF : Hid (Kept w _ g) := ((k8.put (k := w.heap.size) (j := 0) (Nat.le_refl _) (.slice none 0 0)).put (k := w.heap.size) (j := 1) (Nat.le_refl _) (.slice none 0 0)).put (k := w.heap.size) (j := 2) (Nat.le_refl _) (.int .i64 (-1))
    have RF := ((R8.low (World.grown_at' _ w.heap.size 0 (.slice none 0 0)) hwu1).low (World.grown_at' _ w.heap.size 1 (.slice none 0 0)) hwu1).low (World.grown_at' _ w.heap.size 2 (.int .i64 (-1))) hwu1
    have lFX : (([] : List Int)).length = 0 := rfl
    have lFY : (([] : List Int)).length = 0 := rfl
    have IF1 := owned_at (xs := ([] : List Int)) (by rw [lFX]; exact RF.one' lFX)
    have IF2 := owned_at (xs := ([] : List Int)) (by rw [lFY]; exact RF.two' lFY)
    rw [← HFF.out.1] at IF1
    rw [← HFF.out.2.1] at IF2
    have IF : Hid (_ ∧ _) := ⟨IF1, IF2⟩
    have hLx : FX.length = 0 := by rw [HFF.out.1]; exact lFX
    have hLy : FY.length = 0 := by rw [HFF.out.2.1]; exact lFY
    have HLL : Hid (FX.length = 0 ∧ FY.length = 0) := ⟨hLx, hLy⟩
    clear RF R8 r8 k8 lFX lFY hLx hLy IF1 IF2
    go_wp2
    (try simp only [Exit.inBlock, Exit.then])
    refine bodyPost_ret (results_cell_row rfl _ _ w.heap.size 26 _ (0, 0) _ rfl rF.out Try.underlying26 rfl (by kernel_rfl)) rfl ?_
    rw [HLL.out.1, HLL.out.2, HFF.out.2.2]
    exact ⟨⟨none, none, 0, 0, rfl, IF.out.1, IF.out.2⟩, kF.out⟩
  go_wp2_with fail
  refine (D5.out u7 (HC.out u7 k7) c7).mono ?_
  rintro e u8 ⟨rfl, hk⟩
  have k8 : Kept w u8 g := k7.on hk.2 (fun k h => .inl (by cases h; rfl))
  have c8 := hk.1
  have r8 := r7.grew hk.2 (by intro e; have := Option.some.inj e; omega)
  have R8 := R7.cur hk.2 hgu1
  have b8 := b7.grew hk.2 (by intro e; exact hgu5 (Option.some.inj e))
  have hz9 : u5.heap.size < u8.heap.size := b8.lt
  have hrw : w.heap.size < u8.heap.size := r8.lt
  clear hk k7 c7 r7 R7 b7
  have HX1 : Hid (eX1 t X0 = X0 ∧ eY1 t Y0 = Y0 ∧ eC1 t C0 = C0) := ⟨by unfold eX1; rw [if_neg (by omega)], by unfold eY1; rw [if_neg (by omega)], by unfold eC1; rw [if_neg (by omega)]⟩
  obtain ⟨⟨e0, e1, e2⟩, f0, f1, f2⟩ := b8.three
  obtain ⟨⟨y0, y1, y2⟩, h0, h1, h2⟩ := r8.three
  by_cases hu0 : u = 0
  · subst hu0
    have HFF : Hid (FX = (X0 ++ [9]) ∧ FY = Y0 ∧ FC = C0) := ⟨by rw [HXF.out, HX1.out.1]; simp [eX2], by rw [HYF.out, HX1.out.2.1]; simp [eY2], by rw [HCF.out, HX1.out.2.2]; simp [eC2]⟩
    have lx8 : (X0).length = 8 := lX
    clear y0 y1 y2 h0 h1 h2
    go_wp2_with (at_builtin; refine wpList_append_lies _ (by rfl) _ _ 24 (by rfl) u1.heap.size 3 i0 (.int .i64 0) 1 8 Try.underlying24 hi0 hz0 hz1 hz2 rfl (by omega) (.slice (some ⟨G1, 0, none⟩) 8 q1) 8 _ (by rfl) ((R8.one' lx8).alloc _) ⟨u8.heap.size, 0, none⟩ 1 1 [.int .i64 9] (by rfl) (by rfl) (World.news_of_block (cs := #[.int .i64 9]) (t := 3) (fr := (0, 0)) (heap_alloc_new u8 _)) (by simp [Value.oneCell']) (by omega) (by unfold maxLen; omega) (by omega) (by simp; omega) (u8.heap.size + 1) (by simp) ?_; intro gg cp w9 hown9 hgrow hat hlt9; have bb := (Below.refl u8.heap.size u8).alloc (Nat.le_refl _) (.cells #[.int .i64 9] 3); have b9 := (b8.below bb b8.lt).grew hgrow (fun e => R8.away1 e.symm); have R9 := (R8.below bb).add1' lx8 (by simp; omega) hown9 hgrow (by simpa using hat); have k9 := (k8.below bb).on hgrow (fun k h => .inr (by have := (R8.one.lt k h).1; omega)); have r9 := (r8.below bb r8.lt).grew hgrow (fun e => by have := (R8.one.lt _ e.symm).1; omega); have Rs := R9.grew (World.grown_at' w9 u5.heap.size 0 (.slice (some ⟨gg, 0, none⟩) (8 + 1) cp)); have rs := r9.other ⟨u5.heap.size, 0, none⟩ (.slice (some ⟨gg, 0, none⟩) (8 + 1) cp) (by simp; omega); have ks := k9.put (k := u5.heap.size) (j := 0) (by omega) (.slice (some ⟨gg, 0, none⟩) (8 + 1) cp); obtain ⟨⟨y0, y1, y2⟩, h0, h1, h2⟩ := b9.three; obtain ⟨⟨d0, d1, d2⟩, j0, j1, j2⟩ := r9.three; clear e0 e1 e2 f0 f1 f2 hown9 hgrow hat hlt9 bb b8 R8 k8 r8 c8 b9 R9 k9 r9)
    have rF : Hid (Blk _ _ _ _) := ((rs.set 0 (.slice (some ⟨gg, 0, none⟩) (8 + 1) cp) (by simp)).set 1 (.slice (some ⟨G2, 0, none⟩) 8 q2) (by simp)).set 2 (.int .i64 (C0)) (by simp)
    have kF : Hid (Kept w _ g) := ((ks.put (k := w.heap.size) (j := 0) (Nat.le_refl _) (.slice (some ⟨gg, 0, none⟩) (8 + 1) cp)).put (k := w.heap.size) (j := 1) (Nat.le_refl _) (.slice (some ⟨G2, 0, none⟩) 8 q2)).put (k := w.heap.size) (j := 2) (Nat.le_refl _) (.int .i64 (C0))
    have RF := ((Rs.low (World.grown_at' _ w.heap.size 0 (.slice (some ⟨gg, 0, none⟩) (8 + 1) cp)) hwu1).low (World.grown_at' _ w.heap.size 1 (.slice (some ⟨G2, 0, none⟩) 8 q2)) hwu1).low (World.grown_at' _ w.heap.size 2 (.int .i64 (C0))) hwu1
    have lFX : ((X0 ++ [9])).length = 9 := (by simp [lx8])
    have lFY : (Y0).length = 8 := lY
    have IF1 := owned_at (xs := (X0 ++ [9])) (by rw [lFX]; exact RF.one' lFX)
    have IF2 := owned_at (xs := Y0) (by rw [lFY]; exact RF.two' lFY)
    rw [← HFF.out.1] at IF1
    rw [← HFF.out.2.1] at IF2
    have IF : Hid (_ ∧ _) := ⟨IF1, IF2⟩
    have hLx : FX.length = 9 := by rw [HFF.out.1]; exact lFX
    have hLy : FY.length = 8 := by rw [HFF.out.2.1]; exact lFY
    have HLL : Hid (FX.length = 9 ∧ FY.length = 8) := ⟨hLx, hLy⟩
    clear RF Rs rs ks lFX lFY hLx hLy IF1 IF2
    (try go_wp2)
    (try simp only [Exit.inBlock, Exit.then])
    refine bodyPost_ret (results_cell_row rfl _ _ w.heap.size 26 _ (0, 0) _ rfl rF.out Try.underlying26 rfl (by kernel_rfl)) rfl ?_
    rw [HLL.out.1, HLL.out.2, HFF.out.2.2]
    exact ⟨⟨(some ⟨gg, 0, none⟩), (some ⟨G2, 0, none⟩), cp, q2, rfl, IF.out.1, IF.out.2⟩, kF.out⟩
  by_cases hu1 : u = 1
  · subst hu1
    have HFF : Hid (FX = X0 ∧ FY = (Y0.set 3 (pick3F (-1) 256 255 x)) ∧ FC = C0) := ⟨by rw [HXF.out, HX1.out.1]; simp [eX2], by rw [HYF.out, HX1.out.2.1]; unfold eY2; rw [if_pos ⟨rfl, by rw [lY]; decide⟩], by rw [HCF.out, HX1.out.2.2]; simp [eC2]⟩
    have HE : Hid (∀ w', Blk w' u5.heap.size #[.slice (some ⟨G1, 0, none⟩) 8 q1, .slice (some ⟨G2, 0, none⟩) 8 q2, .int .i64 (C0)] 26 → (w'.cell? ⟨u5.heap.size, 0, none⟩ = some (.slice (some ⟨G1, 0, none⟩) 8 q1) ∧ w'.cell? ⟨u5.heap.size, 1, none⟩ = some (.slice (some ⟨G2, 0, none⟩) 8 q2) ∧ w'.cell? ⟨u5.heap.size, 2, none⟩ = some (.int .i64 (C0)))) := fun w' h => h.three.1
    have bl := (Below.refl u8.heap.size u8).drew.alloc (by simp) (.cells #[.int .i64 (-1), .int .i64 256, .int .i64 255] 3)
    have bq := Blk.new u8.drew #[.int .i64 (-1), .int .i64 256, .int .i64 255] 3
    have b9 := b8.below bl b8.lt
    have k9 := k8.below bl
    have c9 := c8.grew bl
    have R9 := R8.below bl
    have r9 := r8.below bl r8.lt
    have K0 := HE.out u8.drew b8.drew
    have K1 := HE.out _ b9
    have hgq : ¬ u8.drew.heap.size = g := by simp; omega
    have hag2 : ¬ G2 = u5.heap.size := fun e => R8.away2 (by rw [e]; rfl)
    have hG2u : u1.heap.size ≤ G2 := (R8.two.lt G2 rfl).1
    clear y0 y1 y2 h0 h1 h2
    go_wp2_with fail
    clear e0 e1 e2 f0 f1 f2
    go_region_held3 (fun w' => (w'.cell? ⟨u5.heap.size, 0, none⟩ = some (.slice (some ⟨G1, 0, none⟩) 8 q1) ∧ w'.cell? ⟨u5.heap.size, 1, none⟩ = some (.slice (some ⟨G2, 0, none⟩) 8 q2) ∧ w'.cell? ⟨u5.heap.size, 2, none⟩ = some (.int .i64 (C0))))
      (first | (with_reducible exact K0) | (with_reducible exact K1) | (with_reducible exact K2) | (exact K1) | (exact HE.out _ (b10.other _ _ (by simp; omega))) | (exact HE.out _ ((b10.other _ _ (by simp; omega)).drew)))
      ((go_at_call 40; refine (D6.out _ 3 (-1) 256 255 _ (HC.out _ k9) c9 bq hgq).mono ?_; rintro e u9 ⟨rfl, hr⟩; have b10 := b9.grew hr (by intro e; exact hgu5 (Option.some.inj e)); have k10 : Kept w u9 g := k9.on hr (fun k h => .inl (by cases h; rfl)); have R10 := R9.cur hr hgu1; have r10 := r9.grew hr (by intro e; have := Option.some.inj e; omega); have K2 := HE.out u9 b10; have ce := (R10.two' lY).cellAt 3 (by omega); have fe := (R10.two' lY).frozenAt 3; have ce' : u9.cell? ⟨G2, 3, none⟩ = some (.int .i64 (Y0.getD 3 0)) := (by rw [ce]; simp [List.getElem?_eq_getElem (show 3 < Y0.length by omega)]); clear hr ce))
    have R11 := R10.put2 lY 3 (pick3F (-1) 256 255 x)
    have r11 := r10.other ⟨G2, 3, none⟩ (.int .i64 (pick3F (-1) 256 255 x)) (by simp; omega)
    have k11 := k10.put (k := G2) (j := 3) (by omega) (.int .i64 (pick3F (-1) 256 255 x))
    obtain ⟨⟨y0, y1, y2⟩, h0, h1, h2⟩ := r11.three
    have b11 := b10.other ⟨G2, 3, none⟩ (.int .i64 (pick3F (-1) 256 255 x)) (by simp; omega)
    obtain ⟨⟨e0, e1, e2⟩, f0, f1, f2⟩ := b11.three
    clear b8 k8 c8 R8 r8 bl bq b9 k9 c9 R9 r9 K0 K1 K2 b10 k10 R10 r10 fe ce'
    have rF : Hid (Blk _ _ _ _) := ((r11.set 0 (.slice (some ⟨G1, 0, none⟩) 8 q1) (by simp)).set 1 (.slice (some ⟨G2, 0, none⟩) 8 q2) (by simp)).set 2 (.int .i64 (C0)) (by simp)
    have kF : Hid (Kept w _ g) := ((k11.put (k := w.heap.size) (j := 0) (Nat.le_refl _) (.slice (some ⟨G1, 0, none⟩) 8 q1)).put (k := w.heap.size) (j := 1) (Nat.le_refl _) (.slice (some ⟨G2, 0, none⟩) 8 q2)).put (k := w.heap.size) (j := 2) (Nat.le_refl _) (.int .i64 (C0))
    have RF := ((R11.low (World.grown_at' _ w.heap.size 0 (.slice (some ⟨G1, 0, none⟩) 8 q1)) hwu1).low (World.grown_at' _ w.heap.size 1 (.slice (some ⟨G2, 0, none⟩) 8 q2)) hwu1).low (World.grown_at' _ w.heap.size 2 (.int .i64 (C0))) hwu1
    have lFX : (X0).length = 8 := lX
    have lFY : ((Y0.set 3 (pick3F (-1) 256 255 x))).length = 8 := (by rw [List.length_set]; exact lY)
    have IF1 := owned_at (xs := X0) (by rw [lFX]; exact RF.one' lFX)
    have IF2 := owned_at (xs := (Y0.set 3 (pick3F (-1) 256 255 x))) (by rw [lFY]; exact RF.two' lFY)
    rw [← HFF.out.1] at IF1
    rw [← HFF.out.2.1] at IF2
    have IF : Hid (_ ∧ _) := ⟨IF1, IF2⟩
    have hLx : FX.length = 8 := by rw [HFF.out.1]; exact lFX
    have hLy : FY.length = 8 := by rw [HFF.out.2.1]; exact lFY
    have HLL : Hid (FX.length = 8 ∧ FY.length = 8) := ⟨hLx, hLy⟩
    clear RF R11 r11 k11 lFX lFY hLx hLy IF1 IF2
    go_wp2
    (try simp only [Exit.inBlock, Exit.then])
    refine bodyPost_ret (results_cell_row rfl _ _ w.heap.size 26 _ (0, 0) _ rfl rF.out Try.underlying26 rfl (by kernel_rfl)) rfl ?_
    rw [HLL.out.1, HLL.out.2, HFF.out.2.2]
    exact ⟨⟨(some ⟨G1, 0, none⟩), (some ⟨G2, 0, none⟩), q1, q2, rfl, IF.out.1, IF.out.2⟩, kF.out⟩
  by_cases hu2 : u = 2
  · subst hu2
    obtain ⟨xp, hxp⟩ : ∃ xp, xp = pick3F (-2) 256 255 x := ⟨_, rfl⟩
    have HFF : Hid (FX = X0 ∧ FY = Y0 ∧ FC = xp) := ⟨by rw [HXF.out, HX1.out.1]; simp [eX2], by rw [HYF.out, HX1.out.2.1]; simp [eY2], by rw [HCF.out, HX1.out.2.2, hxp]; simp [eC2]⟩
    have bl := (Below.refl u8.heap.size u8).alloc (Nat.le_refl _) (.cells #[.int .i64 (-2), .int .i64 256, .int .i64 255] 3)
    have bq := Blk.new u8 #[.int .i64 (-2), .int .i64 256, .int .i64 255] 3
    have b9 := b8.below bl b8.lt
    have k9 := k8.below bl
    have c9 := c8.grew bl
    have R9 := R8.below bl
    have r9 := r8.below bl r8.lt
    have hgq : ¬ u8.heap.size = g := by omega
    have DP : Hid (Calls _ _ _ _ _) := D6.out _ 3 (-2) 256 255 _ (HC.out _ k9) c9 bq hgq
    rw [← hxp] at DP
    clear hxp
    go_wp2_with (go_at_call 40; refine DP.out.mono ?_; rintro e u9 ⟨rfl, hr⟩; have b10 := b9.grew hr (by intro e; exact hgu5 (Option.some.inj e)); have k10 : Kept w u9 g := k9.on hr (fun k h => .inl (by cases h; rfl)); have R10 := R9.cur hr hgu1; have r10 := r9.grew hr (by intro e; have := Option.some.inj e; omega); have R11 := R10.grew (World.grown_at' u9 u5.heap.size 2 (.int .i64 xp)); have r11 := r10.other ⟨u5.heap.size, 2, none⟩ (.int .i64 xp) (by simp; omega); have k11 := k10.put (k := u5.heap.size) (j := 2) (by omega) (.int .i64 xp); obtain ⟨⟨d0, d1, d2⟩, j0, j1, j2⟩ := b10.three; obtain ⟨⟨m0, m1, m2⟩, n0, n1, n2⟩ := r10.three; clear e0 e1 e2 f0 f1 f2 y0 y1 y2 h0 h1 h2 b8 k8 c8 R8 r8 bl bq b9 k9 c9 R9 r9 b10 k10 R10 r10 hr)
    have rF : Hid (Blk _ _ _ _) := ((r11.set 0 (.slice (some ⟨G1, 0, none⟩) 8 q1) (by simp)).set 1 (.slice (some ⟨G2, 0, none⟩) 8 q2) (by simp)).set 2 (.int .i64 (xp)) (by simp)
    have kF : Hid (Kept w _ g) := ((k11.put (k := w.heap.size) (j := 0) (Nat.le_refl _) (.slice (some ⟨G1, 0, none⟩) 8 q1)).put (k := w.heap.size) (j := 1) (Nat.le_refl _) (.slice (some ⟨G2, 0, none⟩) 8 q2)).put (k := w.heap.size) (j := 2) (Nat.le_refl _) (.int .i64 (xp))
    have RF := ((R11.low (World.grown_at' _ w.heap.size 0 (.slice (some ⟨G1, 0, none⟩) 8 q1)) hwu1).low (World.grown_at' _ w.heap.size 1 (.slice (some ⟨G2, 0, none⟩) 8 q2)) hwu1).low (World.grown_at' _ w.heap.size 2 (.int .i64 (xp))) hwu1
    have lFX : (X0).length = 8 := lX
    have lFY : (Y0).length = 8 := lY
    have IF1 := owned_at (xs := X0) (by rw [lFX]; exact RF.one' lFX)
    have IF2 := owned_at (xs := Y0) (by rw [lFY]; exact RF.two' lFY)
    rw [← HFF.out.1] at IF1
    rw [← HFF.out.2.1] at IF2
    have IF : Hid (_ ∧ _) := ⟨IF1, IF2⟩
    have hLx : FX.length = 8 := by rw [HFF.out.1]; exact lFX
    have hLy : FY.length = 8 := by rw [HFF.out.2.1]; exact lFY
    have HLL : Hid (FX.length = 8 ∧ FY.length = 8) := ⟨hLx, hLy⟩
    clear RF R11 r11 k11 lFX lFY hLx hLy IF1 IF2
    (try go_wp2)
    (try simp only [Exit.inBlock, Exit.then])
    refine bodyPost_ret (results_cell_row rfl _ _ w.heap.size 26 _ (0, 0) _ rfl rF.out Try.underlying26 rfl (by kernel_rfl)) rfl ?_
    rw [HLL.out.1, HLL.out.2, HFF.out.2.2]
    exact ⟨⟨(some ⟨G1, 0, none⟩), (some ⟨G2, 0, none⟩), q1, q2, rfl, IF.out.1, IF.out.2⟩, kF.out⟩
  have HFF : Hid (FX = X0 ∧ FY = Y0 ∧ FC = C0) := ⟨by rw [HXF.out, HX1.out.1]; unfold eX2; rw [if_neg hu0], by rw [HYF.out, HX1.out.2.1]; unfold eY2; rw [if_neg (fun h => hu1 h.1)], by rw [HCF.out, HX1.out.2.2]; unfold eC2; rw [if_neg hu2]⟩
  have rF : Hid (Blk _ _ _ _) := ((r8.set 0 (.slice (some ⟨G1, 0, none⟩) 8 q1) (by simp)).set 1 (.slice (some ⟨G2, 0, none⟩) 8 q2) (by simp)).set 2 (.int .i64 (C0)) (by simp)
  have kF : Hid (Kept w _ g) := ((k8.put (k := w.heap.size) (j := 0) (Nat.le_refl _) (.slice (some ⟨G1, 0, none⟩) 8 q1)).put (k := w.heap.size) (j := 1) (Nat.le_refl _) (.slice (some ⟨G2, 0, none⟩) 8 q2)).put (k := w.heap.size) (j := 2) (Nat.le_refl _) (.int .i64 (C0))
  have RF := ((R8.low (World.grown_at' _ w.heap.size 0 (.slice (some ⟨G1, 0, none⟩) 8 q1)) hwu1).low (World.grown_at' _ w.heap.size 1 (.slice (some ⟨G2, 0, none⟩) 8 q2)) hwu1).low (World.grown_at' _ w.heap.size 2 (.int .i64 (C0))) hwu1
  have lFX : (X0).length = 8 := lX
  have lFY : (Y0).length = 8 := lY
  have IF1 := owned_at (xs := X0) (by rw [lFX]; exact RF.one' lFX)
  have IF2 := owned_at (xs := Y0) (by rw [lFY]; exact RF.two' lFY)
  rw [← HFF.out.1] at IF1
  rw [← HFF.out.2.1] at IF2
  have IF : Hid (_ ∧ _) := ⟨IF1, IF2⟩
  have hLx : FX.length = 8 := by rw [HFF.out.1]; exact lFX
  have hLy : FY.length = 8 := by rw [HFF.out.2.1]; exact lFY
  have HLL : Hid (FX.length = 8 ∧ FY.length = 8) := ⟨hLx, hLy⟩
  clear RF R8 r8 k8 lFX lFY hLx hLy IF1 IF2
  go_wp2
  (try simp only [Exit.inBlock, Exit.then])
  refine bodyPost_ret (results_cell_row rfl _ _ w.heap.size 26 _ (0, 0) _ rfl rF.out Try.underlying26 rfl (by kernel_rfl)) rfl ?_
  rw [HLL.out.1, HLL.out.2, HFF.out.2.2]
  exact ⟨⟨(some ⟨G1, 0, none⟩), (some ⟨G2, 0, none⟩), q1, q2, rfl, IF.out.1, IF.out.2⟩, kF.out⟩
end Go.Proofs.Ytkakiollhhmmaaa
