/-
  The walk of (impl.fourSquare).list.
-/
import Derived.Test.YtlejfkjanllgbaaDoorFourA
import Derived.Test.YtlejfkjanllgbaaDoorIntAll
namespace Go.Proofs.YtlejfkjanllgbaaDoor
open Go.RowKit
set_option linter.unusedVariables false
set_option maxRecDepth 20000

theorem slice_four (W : World) (g : Nat) :
    (Instr.sliceAt 86 (.pointer (some ⟨g, 0, none⟩)) none none none).run Tryd.prog W = .ok (.slice (some ⟨g, 0, none⟩) 4 4) W := by
  have ha : Tryd.prog.arrayLen 86 = 4 := by kernel_rfl
  have he : Tryd.prog.elem 86 = 3 := by kernel_rfl
  rw [run_sliceAt_array_all W 86 ⟨g, 0, none⟩ (by rw [ha, he]; exact Tryd.underlying86), he, ha, Tryd.sizeOf3]
  simp [Result.andThen, slicedAt, Addr.add]
theorem arr_list (n : Nat) (f : Nat → Int) : (arr n f).toList = (listF n f).map (Value.int .i64) := by
  simp [arr, listF]

set_option maxHeartbeats 1600000 in
theorem fourList (f : Nat → Int) (w : World) :
    Calls Tryd.prog 101 #[.agg (arr 16 f)] w fun e w' => (∃ v, e = .returned v ∧ w'.ownsRow w.heap.size 3 1 v 16 ((listF 16 f).map (Value.int .i64))) ∧ Below w.heap.size w w' := by
  obtain ⟨i0, hi0, hz0, hz1, hz2⟩ := info_parts infoI
  go_enter Tryd.func101, Tryd.ntmps101
  go_wp2_with (first
    | (at_make; refine wpList_make_own _ rfl _ _ 24 rfl w.heap.size 3 i0 (.int .i64 0) 1 Tryd.underlying24 hi0 hz0 hz1 .i64 .i64 _ 16 rfl rfl rfl (by rw [hz2]; omega) (by unfold maxLen; omega) (by simp) ?_; intro w1 hown0 hgrow0; have b0 : Blk w1 w.heap.size (arr 16 f) 89 := (Blk.new w _ _).grew hgrow0 (by simp); have hb0 : Below w.heap.size w w1 := ((Below.refl _ _).alloc (Nat.le_refl _) _).grown hgrow0 (by simp) (fun j hj => by cases hj); clear hgrow0)
    | ((with_reducible refine at_load ?_); refine load_arr rfl _ _ rfl w.heap.size 0 rfl 16 f (range_all b0) Tryd.underlying87 rfl size42 ?_; simp only [Act.put, List.setIfInBounds_toArray, List.set_cons_zero, List.set_cons_succ]))
  have hsl := slice_four
  clear b0
  go_loopw [3, 9] (fun v i wr => ∃ k : Nat, k ≤ 4 ∧ i = .int .i64 (k : Int) ∧ v = .slice (some ⟨w.heap.size + 1, 0, none⟩) (4 * k) 16 ∧ wr.ownsRow w.heap.size 3 1 (.slice (some ⟨w.heap.size + 1, 0, none⟩) (4 * k) 16) (4 * k) ((listF (4 * k) f).map (Value.int .i64)) ∧ Below w.heap.size w wr) (fun _ i _ => 4 - (intOf i).toNat)
  case atStart => exact ⟨0, by omega, rfl, by simp, by simpa [listF] using hown0, hb0⟩
  case round =>
    obtain ⟨k, hk, rfl, rfl, hown, hb⟩ := hrel
    clear hown0 hb0
    by_cases hlt : k < 4
    · have l0 : (0 : Int) ≤ (k : Int) := by omega
      have l1 : (k : Int) < 4 := by omega
      obtain ⟨ρ, hρ⟩ : ∃ ρ : Nat → Int, ρ = fun i => f (k * 4 + i) := ⟨_, rfl⟩
      have hidx : ∀ W, (Instr.index 87 (.agg (arr 16 f)) (.int .i64 (k : Int))).run Tryd.prog W = .ok (.agg (arr 4 ρ)) W := fun W => by rw [hρ]; exact index_row Tryd.underlying87 size41 (agg41 W) f k hlt rfl
      have HL : Hid ((listF (4 * k) f).map (Value.int .i64) ++ (arr 4 ρ).toList = (listF (4 * (k + 1)) f).map (Value.int .i64)) := by
        show _ = _
        rw [arr_list, ← List.map_append, hρ, Nat.mul_comm k 4, listF_append]
        rfl
      clear hρ
      have hst := run_storeCells_new (P := Tryd.prog) wr 86 #[.int .i64 0, .int .i64 0, .int .i64 0, .int .i64 0] (arr 4 ρ) (by rw [arr_size]; exact size41) (by rw [arr_size]; rfl) (arr_one _ _)
      have ho := hown.alloc (.cells (arr 4 ρ) 86)
      have hb1 := hb.alloc hb.size (.cells (arr 4 ρ) 86)
      have B3 : Blk (wr.alloc (.cells (arr 4 ρ) 86)) wr.heap.size (arr 4 ρ) 86 := Blk.new wr _ _
      have hnew : ∀ j u, (arr 4 ρ).toList[j]? = some u → (wr.alloc (.cells (arr 4 ρ) 86)).cell? ((⟨wr.heap.size, 0, none⟩ : Addr).add j) = some u := fun j u hu => by
        rw [Addr.add_mid, Nat.zero_add, B3.cell]
        simpa using hu
      have HN : Hid (∀ j u, (arr 4 ρ).toList[j]? = some u → (wr.alloc (.cells (arr 4 ρ) 86)).cell? ((⟨wr.heap.size, 0, none⟩ : Addr).add j) = some u) := hnew
      clear hnew B3 hown hb
      go_wp2_with (at_builtin; refine wpList_append_fits _ rfl _ _ 24 rfl w.heap.size 3 i0 1 Tryd.underlying24 hi0 hz1 (w.heap.size + 1) (4 * k) 16 _ rfl ho ⟨wr.heap.size, 0, none⟩ 4 4 (arr 4 ρ).toList rfl (by simp [arr]) HN.out (fun u hu => Array.all_eq_true_iff_forall_mem.1 (arr_one 4 ρ) u (by simpa using hu)) (by omega) ?_; intro w2 hown2 hg2)
      rw [HL.out] at hown2
      refine ⟨⟨k + 1, by omega, by go_num, rfl, hown2, hb1.grown hg2 hb1.size (fun j hj => by cases hj; omega)⟩, ?_⟩
      simp [intOf]; omega
    · obtain rfl : k = 4 := by omega
      go_wp2
      go_ret
      exact ⟨⟨_, rfl, hown⟩, hb⟩
end Go.Proofs.YtlejfkjanllgbaaDoor
