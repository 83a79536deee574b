/-
  Copies of edges that own their memory, and marks in long lists: the walks of laws.toEdges and laws.markEdges again.
-/
import Derived.Test.YthmcedfkfoagdaaEdgeMark
namespace Go.Proofs.Ythmcedfkfoagdaa
open Go.RowKit
set_option linter.unusedVariables false
set_option maxRecDepth 20000

theorem own_low {w : World} {B g n : Nat} {v : Value} {xs : List Value} (h : w.ownsRow B 3 1 v n xs) (hg : g < B) (j : Nat) (u : Value) : (w.setCell ⟨g, j, none⟩ u).ownsRow B 3 1 v n xs :=
  h.kept (row := some g) ⟨rfl, rfl, rfl, by simp [World.setCell], fun k hk hne => Below.heap_setCell w ⟨g, j, none⟩ u k (by intro e; exact hne (by rw [e]))⟩ (.inr (fun e => by have := (h.lt g e).1; omega))

set_option maxHeartbeats 800000 in
theorem markIntS_long (a : Option Addr) (c B : Nat) (xs : List Int) (k : Int) (w : World) (ho : w.ownsRow B 3 1 (.slice a xs.length c) xs.length (xs.map (Value.int .i64))) (hn : xs.length ≤ 2000000) (hk0 : 0 ≤ k) (hk1 : k ≤ 3000000) :
    Calls Try.prog 32 #[.slice a xs.length c, .int .i64 k] w fun e w' => e = .returned (.int .i64 (k + (xs.length : Int))) ∧ w'.ownsRow B 3 1 (.slice a xs.length c) xs.length ((marksI k xs.length).map (Value.int .i64)) ∧ w.grownBy w' (Value.slice a xs.length c).ownBlock := by
  rcases Nat.eq_zero_or_pos xs.length with h0 | hpos
  · have hx : xs = [] := List.eq_nil_of_length_eq_zero h0
    subst hx
    have HO : Hid (World.ownsRow _ _ _ _ _ _ _) := ho
    clear ho
    go_enter Try.func32, Try.ntmps32
    go_wp2
    refine wp_loop_rounds 1 ?_
    rw [rounds_succ]
    go_wp2
    go_ret
    exact ⟨by simp, HO.out, World.grownBy.refl _ _⟩
  · obtain ⟨g, cp, hv, _⟩ := ho.form hpos
    cases hv
    have ho0 : w.ownsRow B 3 1 (.slice (some ⟨g, 0, none⟩) xs.length c) xs.length (((List.range xs.length).map (mkUp xs k 0)).map (Value.int .i64)) := by rw [mkUp_zero]; exact ho
    clear ho hpos
    obtain ⟨n, HN⟩ : ∃ n, Hid (n = xs.length) := ⟨_, rfl⟩
    rw [← HN.out] at ho0 hn ⊢
    have hn' : (n : Int) ≤ 2000000 := by omega
    go_enter Try.func32, Try.ntmps32
    go_wp2
    go_loopw [1, 5] (fun v i wr => ∃ j : Nat, j ≤ n ∧ i = .int .i64 j ∧ v = .int .i64 (k + (j : Int)) ∧ wr.ownsRow B 3 1 (.slice (some ⟨g, 0, none⟩) n c) n (((List.range n).map (mkUp xs k j)).map (Value.int .i64)) ∧ w.grownBy wr (some g))
      (fun _ i _ => n - (intOf i).toNat)
    case atStart => exact ⟨0, Nat.zero_le _, rfl, by simp, ho0, World.grownBy.refl _ _⟩
    case round =>
      obtain ⟨j, hj, rfl, rfl, hown, hgr⟩ := hrel
      clear ho0
      by_cases hlt : j < n
      · have hq0 : (0 : Int) ≤ (j : Int) := by omega
        have hq : (j : Int) < (n : Int) := by omega
        have hcc := hown.cellAt j (by omega)
        have hfz := hown.frozenAt j
        have hc' : wr.cell? ⟨g, j, none⟩ = some (.int .i64 (mkUp xs k j j)) := by rw [hcc]; simp [hlt]
        have hst := hown.stored j (.int .i64 (k + (j : Int)))
        have hos := hst.1
        have hgr2 := hgr.trans hst.2
        rw [mkUp_set] at hos
        clear hcc hst hown hgr
        go_wp2
        go_roundw
        case rel => exact ⟨j + 1, by omega, by go_num, by go_num, hos, hgr2⟩
        case measure => simp [intOf]; omega
      · obtain rfl : j = n := by omega
        rw [mkUp_full] at hown
        go_wp2
        go_ret
        exact ⟨rfl, hown, hgr⟩


set_option maxHeartbeats 800000 in
theorem toEdges_own (a1 a2 : Option Addr) (c1 c2 : Nat) (xs ys : List Int) (c : Int) (w : World) (h1 : Ints w a1 xs) (h2 : Ints w a2 ys) (hl1 : xs.length ≤ 1048576) (hl2 : ys.length ≤ 1048576) :
    Calls Try.prog 29 #[edgV a1 xs.length c1 a2 ys.length c2 c] w fun e w' => ∃ a3 a4 c3 c4, e = .returned (edgV a3 xs.length c3 a4 ys.length c4 c) ∧ EdgRows w' w.heap.size w.heap.size (.slice a3 xs.length c3) (.slice a4 ys.length c4) xs ys ∧ Below w.heap.size w w' := by
  have H1 : Hid (Ints w a1 xs) := h1
  have H2 : Hid (Ints w a2 ys) := h2
  clear h1 h2
  go_enter Try.func29, Try.ntmps29
  go_wp2_with fail
  generalize hW : World.alloc (World.alloc (World.alloc w _) _) _ = W
  have hs : W.heap.size = w.heap.size + 3 := by rw [← hW]; simp
  have B0 : Blk W w.heap.size #[.slice a1 xs.length c1, .slice a2 ys.length c2, .int .i64 c] 45 := by rw [← hW]; exact ((Blk.new w _ _).alloc _).alloc _
  have B1 : Blk W (w.heap.size + 1) #[.slice none 0 0, .slice none 0 0, .int .i64 0] 26 := by rw [← hW]; exact (Blk.new' _ _ (by simp)).alloc _
  have B2 : Blk W (w.heap.size + 1 + 1) #[.slice none 0 0, .slice none 0 0, .int .i64 0] 26 := by rw [← hW]; exact Blk.new' _ _ (by simp)
  have hb0 : Below w.heap.size w W := by rw [← hW]; exact (((Below.refl _ _).alloc (Nat.le_refl _) _).alloc (by simp) _).alloc (by simp; omega) _
  clear hW
  refine (toIntS_any _ _ _ W (H1.out.below hb0 (Nat.le_refl _)) hl1).mono ?_
  rintro e w1 ⟨v1, rfl, ho1, hb1⟩
  obtain ⟨a3, c3, rfl⟩ := own_slice ho1
  have HI3 : Hid (w1.ownsRow (w.heap.size + 3) 3 1 (.slice a3 xs.length c3) xs.length (xs.map (Value.int .i64))) := own_mono ho1 (by omega)
  clear ho1
  have C0 := B0.below hb1 (by omega)
  have C1 := B1.below hb1 (by omega)
  have C2 := B2.below hb1 (by omega)
  have hb1' := hb0.trans (hb1.mono (by omega))
  have hs1 : w.heap.size + 3 ≤ w1.heap.size := by have := hb1.size; omega
  clear B0 B1 B2 hb0 hb1 hs
  obtain ⟨⟨x0, x1, x2⟩, _⟩ := C0.three
  obtain ⟨⟨y0, y1, y2⟩, f0, f1, f2⟩ := C2.three
  have D0 : Blk (w1.setCell ⟨w.heap.size + 1 + 1, 0, none⟩ (.slice a3 xs.length c3)) w.heap.size _ _ := C0.other _ _ (by simp; omega)
  have D1 : Blk (w1.setCell ⟨w.heap.size + 1 + 1, 0, none⟩ (.slice a3 xs.length c3)) (w.heap.size + 1) _ _ := C1.other _ _ (by simp)
  have D2 : Blk (w1.setCell ⟨w.heap.size + 1 + 1, 0, none⟩ (.slice a3 xs.length c3)) (w.heap.size + 1 + 1) _ _ := C2.set 0 _ (by simp)
  have hb2 : Below w.heap.size w (w1.setCell ⟨w.heap.size + 1 + 1, 0, none⟩ (.slice a3 xs.length c3)) := hb1'.setCell (by simp; omega) _
  clear C0 C1 C2
  go_wp2_with fail
  have HJ3 : Hid ((w1.setCell ⟨w.heap.size + 1 + 1, 0, none⟩ (.slice a3 xs.length c3)).ownsRow (w.heap.size + 3) 3 1 (.slice a3 xs.length c3) xs.length (xs.map (Value.int .i64))) := own_low HI3.out (by omega) _ _
  have hs2 : w.heap.size + 3 ≤ (w1.setCell ⟨w.heap.size + 1 + 1, 0, none⟩ (.slice a3 xs.length c3)).heap.size := by simpa using hs1
  clear x0 x1 x2 y0 y1 y2 f0 f1 f2 hb1' hs1
  generalize w1.setCell _ _ = W2 at *
  refine (toIntS_any _ _ _ W2 (H2.out.below hb2 (Nat.le_refl _)) hl2).mono ?_
  rintro e w2 ⟨v2, rfl, ho2, hb3⟩
  obtain ⟨a4, c4, rfl⟩ := own_slice ho2
  have HAp : Hid (∀ k, (Value.slice a3 xs.length c3).ownBlock = some k → (Value.slice a4 ys.length c4).ownBlock ≠ some k) := fun k h1 h2 => by have := (HJ3.out.lt k h1).2; have := (ho2.lt k h2).1; omega
  have HI4 : Hid (w2.ownsRow (w.heap.size + 3) 3 1 (.slice a4 ys.length c4) ys.length (ys.map (Value.int .i64)) ∧ w2.ownsRow (w.heap.size + 3) 3 1 (.slice a3 xs.length c3) xs.length (xs.map (Value.int .i64))) := ⟨own_mono ho2 hs2, owned_below HJ3.out hb3⟩
  clear ho2 HJ3 HI3
  have C0 := D0.below hb3 (by omega)
  have C1 := D1.below hb3 (by omega)
  have C2 := D2.below hb3 (by omega)
  have hb4 := hb2.trans (hb3.mono (by omega))
  have hs3 : w.heap.size + 3 ≤ w2.heap.size := by have := hb3.size; omega
  clear D0 D1 D2 hb2 hb3 hs2
  obtain ⟨⟨z0, z1, z2⟩, _⟩ := C0.three
  obtain ⟨⟨x0, x1, x2⟩, e0, e1, e2⟩ := C1.three
  obtain ⟨⟨y0, y1, y2⟩, f0, f1, f2⟩ := C2.three
  have F1 : Blk (((((w2.setCell ⟨w.heap.size + 1 + 1, 1, none⟩ (.slice a4 ys.length c4)).setCell ⟨w.heap.size + 1 + 1, 2, none⟩ (.int .i64 c)).setCell ⟨w.heap.size + 1, 0, none⟩ (.slice a3 xs.length c3)).setCell ⟨w.heap.size + 1, 1, none⟩ (.slice a4 ys.length c4)).setCell ⟨w.heap.size + 1, 2, none⟩ (.int .i64 c)) (w.heap.size + 1) #[.slice a3 xs.length c3, .slice a4 ys.length c4, .int .i64 c] 26 :=
    ((((C1.other ⟨w.heap.size + 1 + 1, 1, none⟩ (.slice a4 ys.length c4) (by simp)).other ⟨w.heap.size + 1 + 1, 2, none⟩ (.int .i64 c) (by simp)).set 0 (.slice a3 xs.length c3) (by simp)).set 1 (.slice a4 ys.length c4) (by simp)).set 2 (.int .i64 c) (by simp)
  have HF1 : Hid (Blk _ _ _ _) := F1
  clear C0 C1 C2 F1
  go_wp2
  (try simp only [Exit.inBlock, Exit.then])
  refine bodyPost_ret (results_cell_row rfl _ _ (w.heap.size + 1) 26 _ (0, 0) _ rfl HF1.out Try.underlying26 rfl (by kernel_rfl)) rfl ?_
  refine ⟨a3, a4, c3, c4, rfl, ⟨?_, ?_, ?_, ?_, HAp.out⟩, ?_⟩
  · exact own_mono (own_low (own_low (own_low (own_low (own_low HI4.out.2 (by omega) _ _) (by omega) _ _) (by omega) _ _) (by omega) _ _) (by omega) _ _) (by omega)
  · exact own_mono (own_low (own_low (own_low (own_low (own_low HI4.out.1 (by omega) _ _) (by omega) _ _) (by omega) _ _) (by omega) _ _) (by omega) _ _) (by omega)
  · intro e; have := (HI4.out.2.lt _ e).1; omega
  · intro e; have := (HI4.out.1.lt _ e).1; omega
  · go_grown

set_option maxHeartbeats 1600000 in
theorem markEdges_long (a1 a2 : Option Addr) (c1 c2 B ge : Nat) (xs ys : List Int) (c : Int) (w : World) (h : EdgRows w B ge (.slice a1 xs.length c1) (.slice a2 ys.length c2) xs ys) (hB : B ≤ w.heap.size) (n1 : xs.length ≤ 1048576) (n2 : ys.length ≤ 1048576) :
    Calls Try.prog 25 #[.agg #[.slice a1 xs.length c1, .slice a2 ys.length c2, .int .i64 c], .int .i64 1] w fun e w' => e = .returned (.int .i64 (1 + (xs.length : Int) + (ys.length : Int))) ∧ Below B w w' ∧ (∀ k, k < w.heap.size → (Value.slice a1 xs.length c1).ownBlock ≠ some k → (Value.slice a2 ys.length c2).ownBlock ≠ some k → w'.heap[k]? = w.heap[k]?) := by
  go_enter Try.func25, Try.ntmps25
  go_wp2_with fail
  generalize hW : World.alloc w _ = W
  have B0 : Blk W w.heap.size #[.slice a1 xs.length c1, .slice a2 ys.length c2, .int .i64 c] 26 := by rw [← hW]; exact Blk.new w _ _
  have hb0 : Below B w W := by rw [← hW]; exact (Below.refl _ _).alloc hB _
  have fr0 : ∀ k, k < w.heap.size → W.heap[k]? = w.heap[k]? := by rw [← hW]; exact fun k hk => Below.heap_alloc w _ k hk
  have R0 : EdgRows W B ge (.slice a1 xs.length c1) (.slice a2 ys.length c2) xs ys := by rw [← hW]; exact h.below ((Below.refl _ _).alloc (Nat.le_refl _) _)
  have L1 : ∀ k, (Value.slice a1 xs.length c1).ownBlock = some k → B ≤ k ∧ k < w.heap.size := h.one.lt
  have L2 : ∀ k, (Value.slice a2 ys.length c2).ownBlock = some k → B ≤ k ∧ k < w.heap.size := h.two.lt
  have HLs : Hid ((∀ k, (Value.slice a1 xs.length c1).ownBlock = some k → B ≤ k ∧ k < w.heap.size) ∧ (∀ k, (Value.slice a2 ys.length c2).ownBlock = some k → B ≤ k ∧ k < w.heap.size)) := ⟨L1, L2⟩
  clear hW h L1 L2
  refine (markIntS_long _ _ _ _ _ W R0.one (by omega) (by omega) (by omega)).mono ?_
  rintro e w1 ⟨rfl, q1, hg1⟩
  have R1 := R0.mark1 (marksI_length _ _) q1 hg1
  have B1 := B0.grew hg1 (by intro e; have := HLs.out.1 _ e.symm; omega)
  have hb1 : Below B w w1 := hb0.grown hg1 (Nat.le_trans hB hb0.size) (fun k hk => (HLs.out.1 k hk).1)
  have HR1 : Hid (EdgRows _ _ _ _ _ _ _) := R1
  have FR1 : Hid (∀ k, k < w.heap.size → (Value.slice a1 xs.length c1).ownBlock ≠ some k → w1.heap[k]? = w.heap[k]?) := fun k hk hn => (hg1.block k (Nat.lt_of_lt_of_le hk hb0.size) (fun e => hn e.symm)).trans (fr0 k hk)
  obtain ⟨⟨x0, x1, x2⟩, _⟩ := B1.three
  clear B0 B1 R0 q1 hg1 hb0 R1 fr0
  go_wp2_with fail
  refine (markIntS_long _ _ _ _ _ w1 HR1.out.two (by omega) (by omega) (by omega)).mono ?_
  rintro e w2 ⟨rfl, q2, hg2⟩
  have R2 := HR1.out.mark2 (marksI_length _ _) q2 hg2
  have hb2 : Below B w w2 := hb1.grown hg2 (Nat.le_trans hB hb1.size) (fun k hk => (HLs.out.2 k hk).1)
  have FR2 : Hid (∀ k, k < w.heap.size → (Value.slice a1 xs.length c1).ownBlock ≠ some k → (Value.slice a2 ys.length c2).ownBlock ≠ some k → w2.heap[k]? = w.heap[k]?) := fun k hk h1 h2 => (hg2.block k (Nat.lt_of_lt_of_le hk hb1.size) (fun e => h2 e.symm)).trans (FR1.out k hk h1)
  clear R2 q2 hg2 hb1 HR1 FR1
  go_wp2
  go_ret
  exact ⟨rfl, hb2, FR2.out⟩

end Go.Proofs.Ythmcedfkfoagdaa
