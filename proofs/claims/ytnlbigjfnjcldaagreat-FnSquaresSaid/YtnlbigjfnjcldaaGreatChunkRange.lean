/-
  A loop over the pieces of a list: one round walked once, whatever the body keeps between two rounds.
-/
import Derived.Test.YtnlbigjfnjcldaaGreatChunkLoop
namespace Go.Proofs.YtnlbigjfnjcldaaGreat
open Go.RowKit
set_option linter.unusedVariables false
set_option maxRecDepth 20000

/-- How the round of the k-th place is left: it goes on, or it returns. -/
def chunkEnd (B : Nat) (I Ix : Nat → World → Prop) (k : Nat) (W : World) : Exit → Act → World → Prop
  | .normal, _, W' => KeepsFrom B W W' ∧ I (k + 1) W'
  | .ret, _, W' => KeepsFrom B W W' ∧ Ix k W'
  | _, _, _ => False

theorem chunkLoop {n : Nat} {g : Operand} {ps : Array Tmp} {assign body : Code} {Q : Exit → Act → World → Prop} {a : Act} {w : World} (sz m : Nat) (hs : PieceOk sz m) (b1 b2 gb o c : Nat) (hc : 64 ≤ c)
    (hg : a.eval g = .func (.func 134) #[] #[.pointer (some ⟨b1, 0, none⟩), .pointer (some ⟨b2, 0, none⟩)]) (hps : ps.size = 1) (I Ix : Nat → World → Prop) (hI : OwnFrom w.heap.size I) (hIx : OwnFrom w.heap.size Ix) (hIC : ∀ k W, I k W → W.cell? ⟨b1, 0, none⟩ = some (.slice (some ⟨gb, o, none⟩) 64 c) ∧ W.cell? ⟨b2, 0, none⟩ = some (.int .i64 (sz : Int))) (h0 : I 0 w) (a₁ : Nat → Act)
    (hassign : ∀ (l k : Nat) (W : World) (K : Act → World → Prop), K (a₁ k) W → assign.wpIn (Fence.wide.inRound l) (n - 1 - 1) Tryz.prog (Exit.then K (fun _ _ _ => False))
      { tmps := (ps.zip #[.slice (some ⟨gb, o + k * sz, none⟩) sz sz]).foldl (fun t (p, v) => t.setIfInBounds p v) a.tmps, defers := [] } W)
    (hbody : ∀ (l k : Nat) (W : World), k < m → I k W → body.wpIn (Fence.wide.inRound l) (n - 1 - 1) Tryz.prog (chunkEnd w.heap.size I Ix k W) (a₁ k) W)
    (hdone : ∀ (D : Nat) (W : World), w.heap.size ≤ D → I (m) W → W.heap[D]? = some (.deferred (some [])) → Q .normal { a with defers := { target := .collected D, args := #[] } :: a.defers } W)
    (hstop : ∀ (D k : Nat) (W : World), w.heap.size ≤ D → k < m → Ix k W → W.heap[D]? = some (.deferred (some [])) → Code.ret.wpIn Fence.wide n Tryz.prog Q { a with defers := { target := .collected D, args := #[] } :: a.defers } W) :
    (Code.rangeFunc g ps assign body).wpIn Fence.wide n Tryz.prog Q a w := by
  refine wpIn_rangeFunc fun fn _ => ?_
  generalize hB : w.heap.size = B at *
  -- the loop's record, and the two blocks that the statement lays
  let rc : LoopState → Option Code → Loop := fun st pe => { state := st, pending := pe, fn, tmps := a.tmps, params := ps, assign, body, defers := B }
  have hsz : (w.alloc (.deferred (some []))).heap.size = B + 1 := by rw [World.size_alloc, hB]
  let V := (w.alloc (.deferred (some []))).alloc (.loop (rc .ready none))
  have v1 : V.heap[B + 1]? = some (.loop (rc .ready none)) := by
    have := World.alloc_heap_new (w.alloc (.deferred (some []))) (.loop (rc .ready none))
    rwa [hsz] at this
  have v0 : V.heap[B]? = some (.deferred (some [])) := by
    refine (Below.heap_alloc _ _ _ (by rw [hsz]; omega)).trans ?_
    have := World.alloc_heap_new w (.deferred (some []))
    rwa [hB] at this
  have vI : I 0 V := hI.alloc _ (hI.alloc _ h0)
  refine ⟨B + 1, [{ target := .collected B, args := #[] }], V, { target := .fn (.func 134) #[.pointer (some ⟨b1, 0, none⟩), .pointer (some ⟨b2, 0, none⟩)], args := #[.func (.yield (B + 1)) #[] #[]] }, V, 134,
    #[.func (.yield (B + 1)) #[] #[], .pointer (some ⟨b1, 0, none⟩), .pointer (some ⟨b2, 0, none⟩)], V, ?_, ?_, fun _ _ => trivial, ?_, fun h => (by cases h), ?_⟩
  · have := run_enterLoop_outer (w := w) (P := Tryz.prog) fn a.tmps ps assign body
    rw [hB] at this
    exact this
  · simp only [resolve, hg]
    simp [go_sem]
  · simp [invoke, go_sem]
  · refine (chunk_in (n - 1) sz m hs b1 b2 gb o c hc (B + 1) (fun k W => I k W ∧ W.heap[B + 1]? = some (.loop (rc .ready none)) ∧ W.heap[B]? = some (.deferred (some [])))
      (fun k W => Ix k W ∧ W.heap[B + 1]? = some (.loop (rc .done (some .ret))) ∧ W.heap[B]? = some (.deferred (some []))) (fun k W q h => ⟨hI _ _ _ none h.1 ⟨rfl, rfl, rfl, Nat.le_refl _, fun _ _ _ => rfl⟩ (fun r e => by cases e), h.2⟩) (fun k W h => hIC k W h.1) ?_ V ⟨vI, v1, v0⟩).mono ?_
    · -- one round
      rintro k W hk ⟨wi, w1, w0⟩
      have hy := run_yield (P := Tryz.prog) (args := #[.slice (some ⟨gb, o + k * sz, none⟩) sz sz]) w1 hps.symm
      refine ⟨_, _, _, _, hy, roundIn_of_wpIn trivial (hassign _ k W _ ⟨_, run_beginRound w1 rfl, ?_⟩)⟩
      clear hy
      have hlt : B + 1 < W.heap.size := (Array.getElem?_eq_some_iff.1 w1).1
      generalize hU : W.putObj (B + 1) (.loop { rc .ready none with state := .busy }) = U
      have u1 : U.heap[B + 1]? = some (.loop { rc .ready none with state := .busy }) := by rw [← hU]; exact World.putObj_heap_same hlt
      have u0 : U.heap[B]? = some (.deferred (some [])) := by rw [← hU]; exact (World.putObj_heap_other (by omega)).trans w0
      have uI : I k U := by rw [← hU]; exact hI.putObj _ wi (by omega) w1 rfl
      refine wpIn_mono (hbody _ k U hk uI) ?_
      have close : ∀ (jump : Option Code) (X : World), KeepsFrom B U X → ∃ Y, (Instr.endRound (B + 1) jump).run Tryz.prog X = .ok (.bool jump.isNone) Y ∧ Y = X.putObj (B + 1) (.loop (rc (if jump.isNone then .ready else .done) jump)) ∧
          X.heap[B + 1]? = some (.loop { rc .ready none with state := .busy }) ∧ Y.heap[B + 1]? = some (.loop (rc (if jump.isNone then .ready else .done) jump)) ∧ Y.heap[B]? = some (.deferred (some [])) := by
        intro jump X hkX
        have x1 := hkX.same _ _ (by omega) u1 rfl
        have x0 := hkX.same _ _ (Nat.le_refl _) u0 rfl
        exact ⟨_, run_endRound jump x1, rfl, x1, World.putObj_heap_same (Array.getElem?_eq_some_iff.1 x1).1, (World.putObj_heap_other (by omega)).trans x0⟩
      intro e a3 X hp
      cases e with
      | normal =>
        obtain ⟨hkX, hX⟩ := hp
        obtain ⟨Y, hr, rfl, x1, y1, y0⟩ := close none X hkX
        exact ⟨_, _, hr, .inl ⟨rfl, hI.putObj _ hX (by omega) x1 rfl, y1, y0⟩⟩
      | ret =>
        obtain ⟨hkX, hX⟩ := hp
        obtain ⟨Y, hr, rfl, x1, y1, y0⟩ := close (some .ret) X hkX
        exact ⟨_, _, hr, .inr ⟨rfl, hIx.putObj _ hX (by omega) x1 rfl, y1, y0⟩⟩
      | exit id => exact hp.elim
      | goto t => exact hp.elim
      | panic ch => exact hp.elim
      | outgrown => exact hp.elim
    · -- behind the last round
      rintro e X ⟨⟨v, rfl⟩, (⟨hX, x1, x0⟩ | ⟨k, hk, hX, x1, x0⟩)⟩
      · exact ⟨none, _, run_endLoop x1 (by intro h; cases h), hdone B _ (Nat.le_refl _) (hI.putObj _ hX (by omega) x1 rfl) ((World.putObj_heap_other (by omega)).trans x0)⟩
      · exact ⟨some .ret, _, run_endLoop x1 (by intro h; cases h), hstop B k _ (Nat.le_refl _) hk (hIx.putObj _ hX (by omega) x1 rfl) ((World.putObj_heap_other (by omega)).trans x0)⟩
end Go.Proofs.YtnlbigjfnjcldaaGreat
