/-
  The walk of laws.FnExactEdgesOf.
-/
import Derived.Test.YthmcedfkfoagdaaEdgesOfImpl
import Derived.Test.YthmcedfkfoagdaaEdgesOfSpec
import Derived.Test.YthmcedfkfoagdaaEdgeMark
namespace Go.Proofs.Ythmcedfkfoagdaa
open Go.RowKit
set_option linter.unusedVariables false
set_option maxRecDepth 20000

theorem edgA_len (W H : Int) (s : ByteArray) (x y : Int) : (edgA W H s x y).length ≤ 8 ∧ (edgL W H s x y).length ≤ 8 := by
  unfold edgA edgL
  constructor
  · split
    · exact aboveK_len W H s x y 8
    · simp
  · split
    · exact leftK_len W H s x y 8
    · simp

set_option maxHeartbeats 3200000 in
theorem fnExactEdgesOf_walk (W H : Int) (s : ByteArray) (x y : Int) (w : World) (hs : s.size ≤ maxLen) :
    Calls Try.prog 5 #[picV W H s, .int .i64 x, .int .i64 y] w fun e w' => e = .returned (.bool true) ∧ Below w.heap.size w w' := by
  have CS : Hid (∀ w', Calls Try.prog 21 #[picV W H s, .int .i64 x, .int .i64 y] w' fun e w'' => (∃ v1 v2 ge, e = .returned (.tuple #[.agg #[v1, v2, .int .i64 (edgC W H s x y)], .bool (fitsB W H s x y)]) ∧ EdgRows w'' w'.heap.size ge v1 v2 (edgA W H s x y) (edgL W H s x y)) ∧ Below w'.heap.size w' w'') := fun w' => specEdgesOf W H s x y w'
  have CI : Hid (∀ w', Calls Try.prog 23 #[picV W H s, .int .i64 x, .int .i64 y] w' fun e w'' => (∃ v1 v2 ge, e = .returned (.tuple #[.agg #[v1, v2, .int .i64 (edgC W H s x y)], .bool (fitsB W H s x y)]) ∧ EdgRows w'' w'.heap.size ge v1 v2 (edgA W H s x y) (edgL W H s x y)) ∧ Below w'.heap.size w' w'') := fun w' => implEdgesOf W H s x y w'
  obtain ⟨nA, nL⟩ := edgA_len W H s x y
  generalize edgA W H s x y = A at *
  generalize edgL W H s x y = L at *
  generalize edgC W H s x y = C at *
  generalize fitsB W H s x y = F at *
  have hF : (F != F) = false := by simp
  go_enter Try.func5, Try.ntmps5
  go_wp2_with fail
  generalize hW : World.alloc w _ = V
  have A0 : Blk V w.heap.size #[.int .i64 W, .int .i64 H, .string s] 36 := by rw [← hW]; exact Blk.new w _ _
  have hb0 : Below w.heap.size w V := by rw [← hW]; exact (Below.refl _ _).alloc (Nat.le_refl _) _
  clear hW
  have PB : Hid (∀ w', Below V.heap.size V w' → (w'.cell? ⟨w.heap.size, 0, none⟩ = some (.int .i64 W) ∧ w'.cell? ⟨w.heap.size, 1, none⟩ = some (.int .i64 H) ∧ w'.cell? ⟨w.heap.size, 2, none⟩ = some (.string s))) := fun w' h => (A0.below h A0.lt).three.1
  clear A0
  refine (szPic_any W H s 1048576 V hs (by decide) (by decide)).mono ?_
  rintro e w1 ⟨rfl | ⟨r, rfl, r0, r1, r2⟩, hc⟩
  · have hb1 := hb0.trans (hc.mono hb0.size)
    go_wp2
    go_ret
    exact ⟨rfl, hb1⟩
  have h1 : Below V.heap.size V w1 := hc
  clear hc
  obtain ⟨x0, x1, x2⟩ := PB.out w1 h1
  go_wp2_with fail
  refine (toPic_any W H s w1).mono ?_
  rintro e w2 ⟨rfl, hc⟩
  have h2 := h1.trans (hc.mono h1.size)
  clear hc h1 x0 x1 x2
  go_wp2_with fail
  refine (CS.out w2).mono ?_
  rintro e w3 ⟨⟨v1, v2, ge, rfl, R3⟩, hc⟩
  obtain ⟨a1, c1, rfl⟩ := own_slice R3.one
  obtain ⟨a2, c2, rfl⟩ := own_slice R3.two
  have h3 := h2.trans (hc.mono h2.size)
  have I3 : Hid (Ints w3 a1 A ∧ Ints w3 a2 L) := ⟨owned_at R3.one, owned_at R3.two⟩
  clear hc h2 R3
  have X3 := Blk.new w3 #[.slice a1 A.length c1, .slice a2 L.length c2, .int .i64 C] 26
  have hx3 := (Below.refl w3.heap.size w3).alloc (Nat.le_refl _) (.cells #[.slice a1 A.length c1, .slice a2 L.length c2, .int .i64 C] 26)
  have h4 := h3.alloc h3.size (.cells #[.slice a1 A.length c1, .slice a2 L.length c2, .int .i64 C] 26)
  obtain ⟨x0, x1, x2⟩ := PB.out _ h4
  go_wp2_with fail
  generalize w3.alloc _ = W3 at *
  generalize hg3 : w3.heap.size = g3 at *
  have SB : Hid (∀ w', Below W3.heap.size W3 w' → (w'.cell? ⟨g3, 0, none⟩ = some (.slice a1 A.length c1) ∧ w'.cell? ⟨g3, 1, none⟩ = some (.slice a2 L.length c2) ∧ w'.cell? ⟨g3, 2, none⟩ = some (.int .i64 C)) ∧ Ints w' a1 A ∧ Ints w' a2 L) := fun w' h => by
    have hq : Below g3 w3 w' := hx3.trans (h.mono (by have := X3.lt; omega))
    exact ⟨(X3.below h X3.lt).three.1, I3.out.1.below hq (by omega), I3.out.2.below hq (by omega)⟩
  have hlt3 := X3.lt
  clear X3 hx3 I3 h3 hg3
  refine (toPic_any W H s W3).mono ?_
  rintro e w4 ⟨rfl, hc⟩
  have h5 := h4.trans (hc.mono h4.size)
  have s4 : Below W3.heap.size W3 w4 := hc
  clear hc x0 x1 x2
  go_wp2_with fail
  refine (CI.out w4).mono ?_
  rintro e w5 ⟨⟨v3, v4, gf, rfl, R5⟩, hc⟩
  obtain ⟨a3, c3, rfl⟩ := own_slice R5.one
  obtain ⟨a4, c4, rfl⟩ := own_slice R5.two
  have h6 := h5.trans (hc.mono h5.size)
  have s5 := s4.trans (hc.mono s4.size)
  have b45 : Below w4.heap.size w4 w5 := hc
  clear hc
  have X5 := Blk.new w5 #[.slice a3 A.length c3, .slice a4 L.length c4, .int .i64 C] 26
  have R6 := R5.below ((Below.refl w5.heap.size w5).alloc (Nat.le_refl _) (.cells #[.slice a3 A.length c3, .slice a4 L.length c4, .int .i64 C] 26))
  have h7 := h6.alloc h6.size (.cells #[.slice a3 A.length c3, .slice a4 L.length c4, .int .i64 C] 26)
  have s6 := s5.alloc s5.size (.cells #[.slice a3 A.length c3, .slice a4 L.length c4, .int .i64 C] 26)
  have b46 := b45.alloc b45.size (.cells #[.slice a3 A.length c3, .slice a4 L.length c4, .int .i64 C] 26)
  have LT : Hid ((∀ k, (Value.slice a3 A.length c3).ownBlock = some k → k < w5.heap.size) ∧ (∀ k, (Value.slice a4 L.length c4).ownBlock = some k → k < w5.heap.size)) := ⟨fun k h => (R5.one.lt k h).2, fun k h => (R5.two.lt k h).2⟩
  have h4s : V.heap.size ≤ W3.heap.size := h4.size
  obtain ⟨⟨y0, y1, y2⟩, _⟩ := SB.out _ s6
  have hg35 : g3 < w5.heap.size := by have := s5.size; omega
  clear R5 h6 s5 b45 h4 h5
  go_wp2_with fail
  generalize w5.alloc _ = W5 at *
  generalize hg5 : w5.heap.size = g5 at *
  refine (eqEdges_any a3 a4 a1 a2 c3 c4 c1 c2 A L C W5 (owned_at R6.one) (owned_at R6.two) (SB.out W5 s6).2.1 (SB.out W5 s6).2.2 (by omega) (by omega)).mono ?_
  rintro e w6 ⟨rfl, hc⟩
  have h8 := h7.trans (hc.mono h7.size)
  have s7 := s6.trans (hc.mono s6.size)
  have b47 := b46.trans (hc.mono b46.size)
  have R7 := R6.below hc
  have X7 := X5.below hc X5.lt
  clear hc h7 s6 b46 R6 X5 y0 y1 y2
  obtain ⟨⟨z0, z1, z2⟩, _⟩ := X7.three
  go_wp2_with fail
  refine (markEdges_any a3 a4 c3 c4 w4.heap.size gf A L C w6 R7 b47.size nA nL).mono ?_
  rintro e w7 ⟨rfl, M1, M2, hm, hfr⟩
  have sz4 : V.heap.size ≤ w4.heap.size := by
    have := s4.size
    have := h4s
    omega
  have h9 : Below V.heap.size V w7 := h8.trans (hm.mono sz4)
  have s8 : Below W3.heap.size W3 w7 := s7.trans (hm.mono s4.size)
  have X8 : Blk w7 g5 #[.slice a3 A.length c3, .slice a4 L.length c4, .int .i64 C] 26 := (hfr g5 X7.lt (fun e => by have := LT.out.1 _ e; omega) (fun e => by have := LT.out.2 _ e; omega)).trans X7
  have MM : Hid (∀ w', Below w7.heap.size w7 w' → (w'.cell? ⟨g5, 0, none⟩ = some (.slice a3 A.length c3) ∧ w'.cell? ⟨g5, 1, none⟩ = some (.slice a4 L.length c4) ∧ w'.cell? ⟨g5, 2, none⟩ = some (.int .i64 C)) ∧ Ints w' a3 (marksI 1 A.length) ∧ Ints w' a4 (marksI (1 + (A.length : Int)) L.length)) := fun w' h => ⟨(X8.below h X8.lt).three.1, M1.below h (Nat.le_refl _), M2.below h (Nat.le_refl _)⟩
  have hg5w : g5 < w7.heap.size := X8.lt
  have hmm := MM.out w7 (Below.refl _ _)
  obtain ⟨⟨y0, y1, y2⟩, k1, k2⟩ := hmm
  have hq1 : (1 + (A.length : Int) + (L.length : Int) != 1 + (A.length : Int) + (L.length : Int)) = false := by simp
  clear hm hfr M1 M2 X7 X8 R7 b47 h8 s7 z0 z1 z2 LT
  go_wp2_with fail
  refine (heldEdges_any a3 a4 A.length L.length c3 c4 C w7 k1 k2 nA nL).mono ?_
  rintro e w8 ⟨rfl, hc⟩
  have h10 := h9.trans (hc.mono h9.size)
  have s9 := s8.trans (hc.mono s8.size)
  have b8 : Below w7.heap.size w7 w8 := hc
  obtain ⟨x0, x1, x2⟩ := PB.out w8 h10
  clear hc h9 s8 k1 k2 y0 y1 y2
  have hnn : ¬ 1 + (A.length : Int) + (L.length : Int) < 0 := by omega
  go_wp2_with fail
  refine (toPic_any W H s w8).mono ?_
  rintro e w9 ⟨rfl, hc⟩
  have h11 := h10.trans (hc.mono h10.size)
  have s10 := s9.trans (hc.mono s9.size)
  have b9 := b8.trans (hc.mono b8.size)
  clear hc h10 s9 b8 x0 x1 x2
  go_wp2_with fail
  refine (CI.out w9).mono ?_
  rintro e w10 ⟨⟨v5, v6, gh, rfl, R10⟩, hc⟩
  obtain ⟨a5, c5, rfl⟩ := own_slice R10.one
  obtain ⟨a6, c6, rfl⟩ := own_slice R10.two
  have h12 := h11.trans (hc.mono h11.size)
  have s11 := s10.trans (hc.mono s10.size)
  have b10 := b9.trans (hc.mono b9.size)
  have I10 : Hid (Ints w10 a5 A ∧ Ints w10 a6 L) := ⟨owned_at R10.one, owned_at R10.two⟩
  clear hc h11 s10 b9 R10
  have h13 := h12.alloc h12.size (.cells #[.slice a5 A.length c5, .slice a6 L.length c6, .int .i64 C] 26)
  have s12 := s11.alloc s11.size (.cells #[.slice a5 A.length c5, .slice a6 L.length c6, .int .i64 C] 26)
  have b11 := b10.alloc b10.size (.cells #[.slice a5 A.length c5, .slice a6 L.length c6, .int .i64 C] 26)
  have b1011 := (Below.refl w10.heap.size w10).alloc (Nat.le_refl _) (.cells #[.slice a5 A.length c5, .slice a6 L.length c6, .int .i64 C] 26)
  obtain ⟨⟨y0, y1, y2⟩, i1, i2⟩ := SB.out _ s12
  have hg3w : g3 < w10.heap.size := by have := s11.size; omega
  clear h12 s11 b10
  go_wp2_with fail
  generalize w10.alloc _ = W10 at *
  refine (eqEdges_any a5 a6 a1 a2 c5 c6 c1 c2 A L C W10 (I10.out.1.below b1011 (Nat.le_refl _)) (I10.out.2.below b1011 (Nat.le_refl _)) i1 i2 (by omega) (by omega)).mono ?_
  rintro e w11 ⟨rfl, hc⟩
  have h14 := h13.trans (hc.mono h13.size)
  have b12 := b11.trans (hc.mono b11.size)
  clear hc h13 b11 y0 y1 y2 i1 i2
  obtain ⟨⟨y0, y1, y2⟩, k1, k2⟩ := MM.out w11 b12
  go_wp2_with fail
  refine (heldEdges_any a3 a4 A.length L.length c3 c4 C w11 k1 k2 nA nL).mono ?_
  rintro e w12 ⟨rfl, hc⟩
  have hfin := hb0.trans ((h14.trans (hc.mono h14.size)).mono hb0.size)
  clear hc h14 b12 k1 k2 y0 y1 y2
  go_wp2
  go_ret
  exact ⟨rfl, hfin⟩
end Go.Proofs.Ythmcedfkfoagdaa
