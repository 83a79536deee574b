/-
  Marks in the rows of a set: the walks of laws.markIntS, laws.heldIntS, laws.markSeq and laws.heldSeq.
-/
import Derived.Test.YtijaehhpebllcaaDoorSeqRead
import Derived.Deep.AppendLies
namespace Go.Proofs.YtijaehhpebllcaaDoor
open Go.RowKit
set_option linter.unusedVariables false
set_option maxRecDepth 20000

/-- n numbers from k on. -/
def marksI (k : Int) (n : Nat) : List Int := (List.range n).map (fun i : Nat => k + (i : Int))
theorem marksI_length (k : Int) (n : Nat) : (marksI k n).length = n := by simp [marksI]
theorem marksI_getD (k : Int) (n i : Nat) (h : i < n) : (marksI k n).getD i 0 = k + (i : Int) := by
  simp [marksI, List.getD_eq_getElem?_getD, h]
def mkUp (xs : List Int) (k : Int) (j i : Nat) : Int := if i < j then k + (i : Int) else xs.getD i 0
theorem mkUp_zero (xs : List Int) (k : Int) : (List.range xs.length).map (mkUp xs k 0) = xs := by
  apply List.ext_getElem
  · simp
  · intro i h1 h2; simp [mkUp, h2]
theorem mkUp_full (xs : List Int) (k : Int) (n : Nat) : (List.range n).map (mkUp xs k n) = marksI k n := by
  unfold marksI; apply List.map_congr_left; intro i hi; simp [mkUp, List.mem_range.1 hi]
theorem mkUp_set (xs : List Int) (k : Int) (n j : Nat) : (((List.range n).map (mkUp xs k j)).map (Value.int .i64)).set j (.int .i64 (k + (j : Int))) = ((List.range n).map (mkUp xs k (j + 1))).map (Value.int .i64) := by
  rw [List.map_map, List.map_map]
  have e : Value.int .i64 (k + (j : Int)) = (Value.int .i64 ∘ mkUp xs k (j + 1)) j := by simp [mkUp]
  rw [e]
  refine int_range_set n j _ _ (fun i hi => ?_)
  simp only [Function.comp, mkUp]
  by_cases h : i < j
  · simp [h, Nat.lt_succ_of_lt h]
  · simp [h, show ¬ i < j + 1 by omega]

set_option maxHeartbeats 800000 in
theorem markIntS_any (a : Option Addr) (c B : Nat) (xs : List Int) (k : Int) (w : World) (ho : w.ownsRow B 3 1 (.slice a xs.length c) xs.length (xs.map (Value.int .i64))) (hn : xs.length ≤ 1000) (hk0 : 0 ≤ k) (hk1 : k ≤ 1000000) :
    Calls Tryd.prog 62 #[.slice a xs.length c, .int .i64 k] w fun e w' => e = .returned (.int .i64 (k + (xs.length : Int))) ∧ w'.ownsRow B 3 1 (.slice a xs.length c) xs.length ((marksI k xs.length).map (Value.int .i64)) ∧ w.grownBy w' (Value.slice a xs.length c).ownBlock := by
  rcases Nat.eq_zero_or_pos xs.length with h0 | hpos
  · have hx : xs = [] := List.eq_nil_of_length_eq_zero h0
    subst hx
    have HO : Hid (World.ownsRow _ _ _ _ _ _ _) := ho
    clear ho
    go_enter Tryd.func62, Tryd.ntmps62
    go_wp2
    refine wp_loop_rounds 1 ?_
    rw [rounds_succ]
    go_wp2
    go_ret
    exact ⟨by simp, HO.out, World.grownBy.refl _ _⟩
  · obtain ⟨g, cp, hv, _⟩ := ho.form hpos
    cases hv
    have ho0 : w.ownsRow B 3 1 (.slice (some ⟨g, 0, none⟩) xs.length c) xs.length (((List.range xs.length).map (mkUp xs k 0)).map (Value.int .i64)) := by rw [mkUp_zero]; exact ho
    clear ho hpos
    obtain ⟨n, HN⟩ : ∃ n, Hid (n = xs.length) := ⟨_, rfl⟩
    rw [← HN.out] at ho0 hn ⊢
    have hn' : (n : Int) ≤ 1000 := by omega
    go_enter Tryd.func62, Tryd.ntmps62
    go_wp2
    go_loopw [1, 5] (fun v i wr => ∃ j : Nat, j ≤ n ∧ i = .int .i64 j ∧ v = .int .i64 (k + (j : Int)) ∧ wr.ownsRow B 3 1 (.slice (some ⟨g, 0, none⟩) n c) n (((List.range n).map (mkUp xs k j)).map (Value.int .i64)) ∧ w.grownBy wr (some g))
      (fun _ i _ => n - (intOf i).toNat)
    case atStart => exact ⟨0, Nat.zero_le _, rfl, by simp, ho0, World.grownBy.refl _ _⟩
    case round =>
      obtain ⟨j, hj, rfl, rfl, hown, hgr⟩ := hrel
      clear ho0
      by_cases hlt : j < n
      · have hq0 : (0 : Int) ≤ (j : Int) := by omega
        have hq : (j : Int) < (n : Int) := by omega
        have hcc := hown.cellAt j (by omega)
        have hfz := hown.frozenAt j
        have hc' : wr.cell? ⟨g, j, none⟩ = some (.int .i64 (mkUp xs k j j)) := by rw [hcc]; simp [hlt]
        have hst := hown.stored j (.int .i64 (k + (j : Int)))
        have hos := hst.1
        have hgr2 := hgr.trans hst.2
        rw [mkUp_set] at hos
        clear hcc hst hown hgr
        go_wp2
        go_roundw
        case rel => exact ⟨j + 1, by omega, by go_num, by go_num, hos, hgr2⟩
        case measure => simp [intOf]; omega
      · obtain rfl : j = n := by omega
        rw [mkUp_full] at hown
        go_wp2
        go_ret
        exact ⟨rfl, hown, hgr⟩

set_option maxHeartbeats 800000 in
theorem heldIntS_any (a : Option Addr) (n c : Nat) (k : Int) (w : World) (hi : Ints w a (marksI k n)) (hn : n ≤ 1000) (hk0 : 0 ≤ k) (hk1 : k ≤ 1000000) :
    Calls Tryd.prog 63 #[.slice a n c, .int .i64 k] w fun e w' => e = .returned (.int .i64 (k + (n : Int))) ∧ w' = w := by
  have HI : Hid (Ints w a (marksI k n)) := hi
  have hn' : (n : Int) ≤ 1000 := by omega
  clear hi
  go_enter Tryd.func63, Tryd.ntmps63
  go_wp2
  go_loopw [1, 5] (fun v i wr => ∃ j : Nat, j ≤ n ∧ i = .int .i64 j ∧ v = .int .i64 (k + (j : Int)) ∧ wr = w)
    (fun _ i _ => n - (intOf i).toNat)
  case atStart => exact ⟨0, Nat.zero_le _, rfl, by simp, rfl⟩
  case round =>
    obtain ⟨j, hj, rfl, rfl, rfl⟩ := hrel
    by_cases hlt : j < n
    · rcases HI.out with h | ⟨b, off, rfl, hg, hc⟩
      · have := marksI_length k n; rw [h] at this; simp at this; omega
      have d1 : wr.cell? ⟨b, off + j, none⟩ = some (.int .i64 (k + (j : Int))) := by rw [hc j (by rw [marksI_length]; exact hlt), marksI_getD k n j hlt]
      clear hc
      have hq0 : (0 : Int) ≤ (j : Int) := by omega
      have hq : (j : Int) < (n : Int) := by omega
      go_wp2
      go_roundw
      case rel => exact ⟨j + 1, by omega, by go_num, by go_num, trivial⟩
      case measure => simp [intOf]; omega
    · obtain rfl : j = n := by omega
      go_wp2
      go_ret
      exact ⟨rfl, rfl⟩

set_option maxHeartbeats 1600000 in
theorem markSeq_any (l b : Int) (a1 a2 : Option Addr) (c1 c2 B : Nat) (xs ys : List Int) (w : World) (h : TwoOwn w B (.slice a1 xs.length c1) (.slice a2 ys.length c2) xs ys) (hB : B ≤ w.heap.size) (n1 : xs.length ≤ 4) (n2 : ys.length ≤ 4) :
    Calls Tryd.prog 28 #[.agg #[.int .i64 l, .int .i64 b, .slice a1 xs.length c1, .slice a2 ys.length c2], .int .i64 1] w fun e w' => e = .returned (.int .i64 (1 + (xs.length : Int) + (ys.length : Int))) ∧ Ints w' a1 (marksI 1 xs.length) ∧ Ints w' a2 (marksI (1 + (xs.length : Int)) ys.length) ∧ Below B w w' ∧ (∀ k, k < w.heap.size → (Value.slice a1 xs.length c1).ownBlock ≠ some k → (Value.slice a2 ys.length c2).ownBlock ≠ some k → w'.heap[k]? = w.heap[k]?) := by
  obtain ⟨o1, B2, hBB, hap, o2⟩ := h
  go_enter Tryd.func28, Tryd.ntmps28
  go_wp2_with fail
  generalize hW : World.alloc w _ = W
  have B0 : Blk W w.heap.size #[.int .i64 l, .int .i64 b, .slice a1 xs.length c1, .slice a2 ys.length c2] 26 := by rw [← hW]; exact Blk.new w _ _
  have hb0 : Below B w W := by rw [← hW]; exact (Below.refl _ _).alloc hB _
  have fr0 : ∀ k, k < w.heap.size → W.heap[k]? = w.heap[k]? := by rw [← hW]; exact fun k hk => Below.heap_alloc w _ k hk
  have p1 : W.ownsRow B 3 1 (.slice a1 xs.length c1) xs.length (xs.map (Value.int .i64)) := by rw [← hW]; exact o1.alloc _
  have p2 : W.ownsRow B2 3 1 (.slice a2 ys.length c2) ys.length (ys.map (Value.int .i64)) := by rw [← hW]; exact o2.alloc _
  have l1 : ∀ k, (Value.slice a1 xs.length c1).ownBlock = some k → B ≤ k ∧ k < w.heap.size := o1.lt
  have l2 : ∀ k, (Value.slice a2 ys.length c2).ownBlock = some k → B2 ≤ k ∧ k < w.heap.size := o2.lt
  clear hW o1 o2
  refine (markIntS_any _ _ _ _ _ W p1 (by omega) (by omega) (by omega)).mono ?_
  rintro e w1 ⟨rfl, q1, hg1⟩
  have B1 := B0.grown hg1 (by intro e; have := l1 _ e.symm; omega)
  have q2 := p2.kept hg1 (by
    cases e2 : (Value.slice a2 ys.length c2).ownBlock with
    | none => exact .inl rfl
    | some k2 =>
      right
      intro e
      have := hap k2 e.symm
      have := (l2 k2 e2).1
      omega)
  have hb1 : Below B w w1 := hb0.trans ⟨hg1.os, hg1.tape, hg1.output, hg1.size, fun k hk => hg1.block k (by have := hb0.size; omega) (by intro e; have := l1 _ e.symm; omega)⟩
  have fr1 : ∀ k, k < w.heap.size → (Value.slice a1 xs.length c1).ownBlock ≠ some k → w1.heap[k]? = w.heap[k]? := fun k hk hn => (hg1.block k (Nat.lt_of_lt_of_le hk hb0.size) (fun e => hn e.symm)).trans (fr0 k hk)
  obtain ⟨⟨x0, x1, x2, x3⟩, _⟩ := B1.four
  have HO : Hid (w1.ownsRow B 3 1 (.slice a1 xs.length c1) xs.length ((marksI 1 xs.length).map (Value.int .i64)) ∧ w1.ownsRow B2 3 1 (.slice a2 ys.length c2) ys.length (ys.map (Value.int .i64))) := ⟨q1, q2⟩
  have HLs : Hid ((∀ k, (Value.slice a1 xs.length c1).ownBlock = some k → k < B2) ∧ (∀ k, (Value.slice a2 ys.length c2).ownBlock = some k → B2 ≤ k ∧ k < w.heap.size)) := ⟨hap, l2⟩
  have FR1 : Hid (∀ k, k < w.heap.size → (Value.slice a1 xs.length c1).ownBlock ≠ some k → w1.heap[k]? = w.heap[k]?) := fr1
  clear B0 B1 p1 p2 q1 q2 hb0 hg1 l1 l2 hap fr0 fr1
  go_wp2_with fail
  refine (markIntS_any _ _ _ _ _ w1 HO.out.2 (by omega) (by omega) (by omega)).mono ?_
  rintro e w2 ⟨rfl, r2, hg2⟩
  have r1 := HO.out.1.kept hg2 (by
    cases e1 : (Value.slice a1 xs.length c1).ownBlock with
    | none => exact .inl rfl
    | some k1 =>
      right
      intro e
      have := HLs.out.1 k1 e1
      have := (HLs.out.2 k1 e.symm).1
      omega)
  have hb2 : Below B w w2 := hb1.trans ⟨hg2.os, hg2.tape, hg2.output, hg2.size, fun k hk => hg2.block k (by have := hb1.size; omega) (by intro e; have := HLs.out.2 _ e.symm; omega)⟩
  have FR2 : Hid (∀ k, k < w.heap.size → (Value.slice a1 xs.length c1).ownBlock ≠ some k → (Value.slice a2 ys.length c2).ownBlock ≠ some k → w2.heap[k]? = w.heap[k]?) := fun k hk h1 h2 => (hg2.block k (Nat.lt_of_lt_of_le hk hb1.size) (fun e => h2 e.symm)).trans (FR1.out k hk h1)
  have HR : Hid (Ints w2 a1 (marksI 1 xs.length) ∧ Ints w2 a2 (marksI (1 + (xs.length : Int)) ys.length)) := by
    constructor
    · exact own_ints (by rw [marksI_length]; exact r1)
    · exact own_ints (by rw [marksI_length]; exact r2)
  clear r1 r2 hg2 hb1
  go_wp2
  go_ret
  exact ⟨rfl, HR.out.1, HR.out.2, hb2, FR2.out⟩

set_option maxHeartbeats 800000 in
theorem heldSeq_any (l b : Int) (a1 a2 : Option Addr) (n1 n2 c1 c2 : Nat) (w : World) (h1 : Ints w a1 (marksI 1 n1)) (h2 : Ints w a2 (marksI (1 + (n1 : Int)) n2)) (hn1 : n1 ≤ 4) (hn2 : n2 ≤ 4) :
    Calls Tryd.prog 29 #[.agg #[.int .i64 l, .int .i64 b, .slice a1 n1 c1, .slice a2 n2 c2], .int .i64 1] w fun e w' => e = .returned (.int .i64 (1 + (n1 : Int) + (n2 : Int))) ∧ Below w.heap.size w w' := by
  have H : Hid (Ints w a1 (marksI 1 n1) ∧ Ints w a2 (marksI (1 + (n1 : Int)) n2)) := ⟨h1, h2⟩
  clear h1 h2
  have hbA := (Below.refl w.heap.size w).alloc (Nat.le_refl _) (.cells #[.int .i64 l, .int .i64 b, .slice a1 n1 c1, .slice a2 n2 c2] 26)
  have m1 : (n1 : Int) ≤ 4 := by omega
  have m2 : (n2 : Int) ≤ 4 := by omega
  go_enter Tryd.func29, Tryd.ntmps29
  go_wp2_with fail
  refine (heldIntS_any _ _ _ _ _ (H.out.1.below hbA (Nat.le_refl _)) (by omega) (by omega) (by omega)).mono ?_
  rintro e w1 ⟨rfl, hw⟩
  subst w1
  go_wp2_with fail
  refine (heldIntS_any _ _ _ _ _ (H.out.2.below hbA (Nat.le_refl _)) (by omega) (by omega) (by omega)).mono ?_
  rintro e w1 ⟨rfl, hw⟩
  subst w1
  go_wp2
  go_ret
  exact ⟨rfl, hbA⟩
end Go.Proofs.YtijaehhpebllcaaDoor
