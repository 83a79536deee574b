/-
  The walks of (impl.eightSquare).turned and list.
-/
import Derived.Test.YtlejfkjanllgbaaDoorEightCross
import Derived.Test.YtlejfkjanllgbaaDoorIntAll
namespace Go.Proofs.YtlejfkjanllgbaaDoor
open Go.RowKit
set_option linter.unusedVariables false
set_option maxRecDepth 20000

set_option maxHeartbeats 1600000 in
theorem eightTurned (f : Nat → Int) (w : World) (hf : Wi 12500000 64 f) :
    Calls Tryd.prog 114 #[.agg (arr 64 f)] w fun e w' => e = .returned (.agg (arr 64 (eightF f))) ∧ Below w.heap.size w w' := by
  have H1 : Hid (∀ w', Calls Tryd.prog 125 #[.agg (arr 64 f)] w' (fun e w'' => e = .returned (.agg (arr 64 (crossF f))) ∧ Below w'.heap.size w' w'')) := fun w' => crossed_any f w' (fun i hi => by have := hf i hi; omega)
  have H2 : Hid (∀ w', Calls Tryd.prog 125 #[.agg (arr 64 (crossF f))] w' (fun e w'' => e = .returned (.agg (arr 64 (eightF f))) ∧ Below w'.heap.size w' w'')) := fun w' => crossed_any (crossF f) w' (fun i hi => by have := crossF_bd hf i hi; omega)
  obtain ⟨f2, hf2⟩ : ∃ g, eightF f = g := ⟨_, rfl⟩
  have HF : Hid (eightF f = f2) := hf2
  rw [hf2] at H2
  clear hf2
  generalize crossF f = f1 at *
  go_enter Tryd.func114, Tryd.ntmps114
  go_wp2_with (first
    | ((with_reducible refine at_load ?_); (generalize hV : World.alloc (World.alloc w _) _ = V; have b0 : Blk V w.heap.size (arr 64 f) 104 := (by rw [← hV]; exact (Blk.new w _ _).alloc _); have b1 : Blk V (w.heap.size + 1) (arr 64 (fun _ => 0)) 104 := (by rw [← hV]; exact Blk.new' _ _ (by simp)); have hb : Below w.heap.size w V := (by rw [← hV]; exact ((Below.refl _ _).alloc (Nat.le_refl _) _).alloc (by simp) _); clear hV; refine load_arr rfl _ _ rfl w.heap.size 0 rfl 64 f (range_all b0) Tryd.underlying104 rfl size55 ?_; simp only [Act.put, List.setIfInBounds_toArray, List.set_cons_zero, List.set_cons_succ]))
    | (go_at_call 125; first | (have hx := hc1; refine (H2.out _).mono ?_; rintro e w2 ⟨rfl, hc⟩; have hc2 := hc1.trans (hc.mono hc1.size); have z1 := b1.below hc2 b1.lt; have zb := hb.trans (hc2.mono hb.size); clear hc1 hc hc2) | (refine (H1.out _).mono ?_; rintro e w1 ⟨rfl, hc1⟩))
    | ((with_reducible refine at_store ?_); refine store_arr rfl _ _ _ rfl (w.heap.size + 1) 0 rfl 64 f2 rfl (there_of_arr z1 0 64 (by omega)) size55 ?_; have HZ : Hid (Blk (w2.setCells (w.heap.size + 1) 0 (arr 64 f2).toList) (w.heap.size + 1) (arr 64 f2) 104) := (arr_store (k := f2) z1 0 64 (by omega) (fun i hi => by rw [Nat.zero_add]) (fun i hi h => by omega)); have hbb := below_setCells (g := w.heap.size + 1) (by omega) (arr 64 f2).toList 0 w2 zb; generalize World.setCells w2 (w.heap.size + 1) 0 (arr 64 f2).toList = Z at *))
  refine bodyPost_ret (results_cell_row rfl _ _ (w.heap.size + 1) 104 _ (0, 0) _ rfl HZ.out Tryd.underlying104 rfl (by rw [arr_size]; exact size55)) rfl ?_
  exact ⟨by rw [HF.out], hbb⟩

theorem slice_eight (W : World) (g o : Nat) :
    (Instr.sliceAt 102 (.pointer (some ⟨g, o, none⟩)) none none none).run Tryd.prog W = .ok (.slice (some ⟨g, o, none⟩) 8 8) W := by
  have ha : Tryd.prog.arrayLen 102 = 8 := by kernel_rfl
  have he : Tryd.prog.elem 102 = 3 := by kernel_rfl
  rw [run_sliceAt_array_all W 102 ⟨g, o, none⟩ (by rw [ha, he]; exact Tryd.underlying102), he, ha, Tryd.sizeOf3]
  simp [Result.andThen, slicedAt, Addr.add]
theorem arr_list8 (n : Nat) (f : Nat → Int) : (arr n f).toList = (listF n f).map (Value.int .i64) := by
  simp [arr, listF]

set_option maxHeartbeats 1600000 in
theorem eightList (f : Nat → Int) (w : World) :
    Calls Tryd.prog 115 #[.agg (arr 64 f)] w fun e w' => (∃ v, e = .returned v ∧ w'.ownsRow w.heap.size 3 1 v 64 ((listF 64 f).map (Value.int .i64))) ∧ Below w.heap.size w w' := by
  obtain ⟨i0, hi0, hz0, hz1, hz2⟩ := info_parts infoI
  go_enter Tryd.func115, Tryd.ntmps115
  go_wp2_with (at_make; refine wpList_make_own _ rfl _ _ 24 rfl w.heap.size 3 i0 (.int .i64 0) 1 Tryd.underlying24 hi0 hz0 hz1 .i64 .i64 _ 64 rfl rfl rfl (by rw [hz2]; omega) (by unfold maxLen; omega) (by simp) ?_; intro w1 hown0 hgrow0; have b0 : Blk w1 w.heap.size (arr 64 f) 104 := (Blk.new w _ _).grew hgrow0 (by simp); have hb0 : Below w.heap.size w w1 := ((Below.refl _ _).alloc (Nat.le_refl _) _).grown hgrow0 (by simp) (fun j hj => by cases hj); clear hgrow0)
  have hsl := slice_eight
  go_loopw [3, 6] (fun v i wr => ∃ k : Nat, k ≤ 8 ∧ i = .int .i64 (k : Int) ∧ v = .slice (some ⟨w.heap.size + 1, 0, none⟩) (8 * k) 64 ∧ wr.ownsRow w.heap.size 3 1 (.slice (some ⟨w.heap.size + 1, 0, none⟩) (8 * k) 64) (8 * k) ((listF (8 * k) f).map (Value.int .i64)) ∧ Blk wr w.heap.size (arr 64 f) 104 ∧ Below w.heap.size w wr) (fun _ i _ => 8 - (intOf i).toNat)
  case atStart => exact ⟨0, by omega, rfl, by simp, by simpa [listF] using hown0, b0, hb0⟩
  case round =>
    obtain ⟨k, hk, rfl, rfl, hown, c0, hb⟩ := hrel
    clear hown0 hb0 b0
    by_cases hlt : k < 8
    · have l0 : (0 : Int) ≤ (k : Int) := by omega
      have l1 : (k : Int) < 8 := by omega
      obtain ⟨ρ, hρ⟩ : ∃ ρ : Nat → Int, ρ = fun i => f (k * 8 + i) := ⟨_, rfl⟩
      have HL : Hid ((listF (8 * k) f).map (Value.int .i64) ++ (arr 8 ρ).toList = (listF (8 * (k + 1)) f).map (Value.int .i64)) := by
        show _ = _
        rw [arr_list8, ← List.map_append, hρ, Nat.mul_comm k 8, listF_append]
        rfl
      have hnew : ∀ j u, (arr 8 ρ).toList[j]? = some u → wr.cell? ((⟨w.heap.size, k * 8, none⟩ : Addr).add j) = some u := fun j u hu => by
        rw [Addr.add_mid]
        have := range_of_arr c0 (k * 8) 8 (by omega)
        rw [← hρ] at this
        exact this j u hu
      have HN : Hid (∀ j u, (arr 8 ρ).toList[j]? = some u → wr.cell? ((⟨w.heap.size, k * 8, none⟩ : Addr).add j) = some u) := hnew
      clear hnew hρ
      go_wp2_with (at_builtin; refine wpList_append_fits _ rfl _ _ 24 rfl w.heap.size 3 i0 1 Tryd.underlying24 hi0 hz1 (w.heap.size + 1) (8 * k) 64 _ rfl hown ⟨w.heap.size, k * 8, none⟩ 8 8 (arr 8 ρ).toList rfl (by simp [arr]) HN.out (fun u hu => Array.all_eq_true_iff_forall_mem.1 (arr_one 8 ρ) u (by simpa using hu)) (by omega) ?_; intro w2 hown2 hg2)
      rw [HL.out] at hown2
      refine ⟨⟨k + 1, by omega, by go_num, rfl, hown2, c0.grew hg2 (by simp), hb.grown hg2 hb.size (fun j hj => by cases hj; omega)⟩, ?_⟩
      simp [intOf]; omega
    · obtain rfl : k = 8 := by omega
      go_wp2
      go_ret
      exact ⟨⟨_, rfl, hown⟩, hb⟩
end Go.Proofs.YtlejfkjanllgbaaDoor
