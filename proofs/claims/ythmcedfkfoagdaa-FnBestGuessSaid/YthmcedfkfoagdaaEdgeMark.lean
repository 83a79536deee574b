/-
  Marks in edges: the walks of laws.markEdges and laws.heldEdges.
-/
import Derived.Test.YthmcedfkfoagdaaEdgesOfMath
import Derived.Test.YthmcedfkfoagdaaMarkInts
import Derived.Test.YthmcedfkfoagdaaSqKit
namespace Go.Proofs.Ythmcedfkfoagdaa
open Go.RowKit
set_option linter.unusedVariables false
set_option maxRecDepth 20000

theorem own_slice {w : World} {B e s n : Nat} {v : Value} {xs : List Value} (h : w.ownsRow B e s v n xs) : ∃ a c, v = .slice a n c := by
  rcases h.2 with ⟨rfl, rfl⟩ | ⟨g, cap, cur, rfl, _⟩
  · exact ⟨_, _, rfl⟩
  · exact ⟨_, _, rfl⟩
theorem own_grown {w w' : World} {B e s n : Nat} {v u : Value} {xs : List Value} (h : w.ownsRow B e s v n xs) (hg : w.grownBy w' u.ownBlock) (hne : ∀ k, u.ownBlock = some k → v.ownBlock ≠ some k) : w'.ownsRow B e s v n xs := by
  refine h.kept hg ?_
  cases hv : v.ownBlock with
  | none => exact .inl rfl
  | some k => exact .inr fun e => hne k e.symm hv
/-- Marked, a list has the marks, and its block is where it was. -/
theorem EdgRows.mark1 {w w' : World} {B ge c : Nat} {a : Option Addr} {v2 : Value} {xs ys zs : List Int} (h : EdgRows w B ge (.slice a xs.length c) v2 xs ys) (hl : zs.length = xs.length) (h1 : w'.ownsRow B 3 1 (.slice a xs.length c) xs.length (zs.map (Value.int .i64))) (hg : w.grownBy w' (Value.slice a xs.length c).ownBlock) :
    EdgRows w' B ge (.slice a xs.length c) v2 zs ys :=
  ⟨by rw [hl]; exact h1, own_grown h.two hg h.apart, h.away1, h.away2, h.apart⟩
theorem EdgRows.mark2 {w w' : World} {B ge c : Nat} {a : Option Addr} {v1 : Value} {xs ys zs : List Int} (h : EdgRows w B ge v1 (.slice a ys.length c) xs ys) (hl : zs.length = ys.length) (h1 : w'.ownsRow B 3 1 (.slice a ys.length c) ys.length (zs.map (Value.int .i64))) (hg : w.grownBy w' (Value.slice a ys.length c).ownBlock) :
    EdgRows w' B ge v1 (.slice a ys.length c) xs zs :=
  ⟨own_grown h.one hg h.apart', by rw [hl]; exact h1, h.away1, h.away2, h.apart⟩

set_option maxHeartbeats 1600000 in
theorem markEdges_any (a1 a2 : Option Addr) (c1 c2 B ge : Nat) (xs ys : List Int) (c : Int) (w : World) (h : EdgRows w B ge (.slice a1 xs.length c1) (.slice a2 ys.length c2) xs ys) (hB : B ≤ w.heap.size) (n1 : xs.length ≤ 8) (n2 : ys.length ≤ 8) :
    Calls Try.prog 25 #[.agg #[.slice a1 xs.length c1, .slice a2 ys.length c2, .int .i64 c], .int .i64 1] w fun e w' => e = .returned (.int .i64 (1 + (xs.length : Int) + (ys.length : Int))) ∧ Ints w' a1 (marksI 1 xs.length) ∧ Ints w' a2 (marksI (1 + (xs.length : Int)) ys.length) ∧ Below B w w' ∧ (∀ k, k < w.heap.size → (Value.slice a1 xs.length c1).ownBlock ≠ some k → (Value.slice a2 ys.length c2).ownBlock ≠ some k → w'.heap[k]? = w.heap[k]?) := by
  go_enter Try.func25, Try.ntmps25
  go_wp2_with fail
  generalize hW : World.alloc w _ = W
  have B0 : Blk W w.heap.size #[.slice a1 xs.length c1, .slice a2 ys.length c2, .int .i64 c] 26 := by rw [← hW]; exact Blk.new w _ _
  have hb0 : Below B w W := by rw [← hW]; exact (Below.refl _ _).alloc hB _
  have fr0 : ∀ k, k < w.heap.size → W.heap[k]? = w.heap[k]? := by rw [← hW]; exact fun k hk => Below.heap_alloc w _ k hk
  have R0 : EdgRows W B ge (.slice a1 xs.length c1) (.slice a2 ys.length c2) xs ys := by rw [← hW]; exact h.below ((Below.refl _ _).alloc (Nat.le_refl _) _)
  have L1 : ∀ k, (Value.slice a1 xs.length c1).ownBlock = some k → B ≤ k ∧ k < w.heap.size := h.one.lt
  have L2 : ∀ k, (Value.slice a2 ys.length c2).ownBlock = some k → B ≤ k ∧ k < w.heap.size := h.two.lt
  have HLs : Hid ((∀ k, (Value.slice a1 xs.length c1).ownBlock = some k → B ≤ k ∧ k < w.heap.size) ∧ (∀ k, (Value.slice a2 ys.length c2).ownBlock = some k → B ≤ k ∧ k < w.heap.size)) := ⟨L1, L2⟩
  clear hW h L1 L2
  refine (markIntS_any _ _ _ _ _ W R0.one (by omega) (by omega) (by omega)).mono ?_
  rintro e w1 ⟨rfl, q1, hg1⟩
  have R1 := R0.mark1 (marksI_length _ _) q1 hg1
  have B1 := B0.grew hg1 (by intro e; have := HLs.out.1 _ e.symm; omega)
  have hb1 : Below B w w1 := hb0.grown hg1 (Nat.le_trans hB hb0.size) (fun k hk => (HLs.out.1 k hk).1)
  have HR1 : Hid (EdgRows _ _ _ _ _ _ _) := R1
  have FR1 : Hid (∀ k, k < w.heap.size → (Value.slice a1 xs.length c1).ownBlock ≠ some k → w1.heap[k]? = w.heap[k]?) := fun k hk hn => (hg1.block k (Nat.lt_of_lt_of_le hk hb0.size) (fun e => hn e.symm)).trans (fr0 k hk)
  obtain ⟨⟨x0, x1, x2⟩, _⟩ := B1.three
  clear B0 B1 R0 q1 hg1 hb0 R1 fr0
  go_wp2_with fail
  refine (markIntS_any _ _ _ _ _ w1 HR1.out.two (by omega) (by omega) (by omega)).mono ?_
  rintro e w2 ⟨rfl, q2, hg2⟩
  have R2 := HR1.out.mark2 (marksI_length _ _) q2 hg2
  have hb2 : Below B w w2 := hb1.grown hg2 (Nat.le_trans hB hb1.size) (fun k hk => (HLs.out.2 k hk).1)
  have HR : Hid (Ints w2 a1 (marksI 1 xs.length) ∧ Ints w2 a2 (marksI (1 + (xs.length : Int)) ys.length)) := by
    constructor
    · have := R2.one
      rw [marksI_length] at this
      exact owned_at (xs := marksI 1 xs.length) (by rw [marksI_length]; exact this)
    · have := R2.two
      rw [marksI_length] at this
      exact owned_at (xs := marksI (1 + (xs.length : Int)) ys.length) (by rw [marksI_length]; exact this)
  have FR2 : Hid (∀ k, k < w.heap.size → (Value.slice a1 xs.length c1).ownBlock ≠ some k → (Value.slice a2 ys.length c2).ownBlock ≠ some k → w2.heap[k]? = w.heap[k]?) := fun k hk h1 h2 => (hg2.block k (Nat.lt_of_lt_of_le hk hb1.size) (fun e => h2 e.symm)).trans (FR1.out k hk h1)
  clear R2 q2 hg2 hb1 HR1 FR1
  go_wp2
  go_ret
  exact ⟨rfl, HR.out.1, HR.out.2, hb2, FR2.out⟩

set_option maxHeartbeats 800000 in
theorem heldEdges_any (a1 a2 : Option Addr) (n1 n2 c1 c2 : Nat) (c : Int) (w : World) (h1 : Ints w a1 (marksI 1 n1)) (h2 : Ints w a2 (marksI (1 + (n1 : Int)) n2)) (hn1 : n1 ≤ 8) (hn2 : n2 ≤ 8) :
    Calls Try.prog 26 #[.agg #[.slice a1 n1 c1, .slice a2 n2 c2, .int .i64 c], .int .i64 1] w fun e w' => e = .returned (.int .i64 (1 + (n1 : Int) + (n2 : Int))) ∧ Below w.heap.size w w' := by
  have H : Hid (Ints w a1 (marksI 1 n1) ∧ Ints w a2 (marksI (1 + (n1 : Int)) n2)) := ⟨h1, h2⟩
  clear h1 h2
  go_enter Try.func26, Try.ntmps26
  go_wp2_with fail
  generalize hW : World.alloc w _ = W
  have B0 : Blk W w.heap.size #[.slice a1 n1 c1, .slice a2 n2 c2, .int .i64 c] 26 := by rw [← hW]; exact Blk.new w _ _
  have hb0 : Below w.heap.size w W := by rw [← hW]; exact (Below.refl _ _).alloc (Nat.le_refl _) _
  clear hW
  refine (heldIntS_any _ _ _ _ W (H.out.1.below hb0 (Nat.le_refl _)) (by omega) (by omega) (by omega)).mono ?_
  rintro e w1 ⟨rfl, hw⟩
  subst w1
  obtain ⟨⟨x0, x1, x2⟩, _⟩ := B0.three
  go_wp2_with fail
  refine (heldIntS_any _ _ _ _ W (H.out.2.below hb0 (Nat.le_refl _)) (by omega) (by omega) (by omega)).mono ?_
  rintro e w2 ⟨rfl, hw⟩
  subst w2
  go_wp2
  go_ret
  exact ⟨rfl, hb0⟩
end Go.Proofs.Ythmcedfkfoagdaa
