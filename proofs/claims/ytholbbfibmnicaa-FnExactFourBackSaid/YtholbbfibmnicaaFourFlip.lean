/-
  The walk of (impl.fourSquare).flipped: columns as rows.
-/
import Derived.Test.YtholbbfibmnicaaFourKit
namespace Go.Proofs.Ytholbbfibmnicaa
open Go.RowKit
set_option linter.unusedVariables false
set_option maxRecDepth 20000

def flipTo (f : Nat → Int) (k j i : Nat) : Int := if i % 4 < k ∨ (i % 4 = k ∧ i / 4 < j) then flipF f i else 0
theorem flipTo_hit (f : Nat → Int) (k j : Nat) (hk : k < 4) (hj : j < 4) : flipTo f k (j + 1) (j * 4 + k) = f (k * 4 + j) := by
  unfold flipTo flipF
  rw [if_pos (by omega)]
  congr 1
  omega
theorem flipTo_not (f : Nat → Int) (k j : Nat) (hk : k < 4) (hj : j < 4) : ∀ i, i ≠ j * 4 + k → flipTo f k (j + 1) i = flipTo f k j i := fun i hi => by
  unfold flipTo
  by_cases c : i % 4 < k ∨ (i % 4 = k ∧ i / 4 < j)
  · rw [if_pos c, if_pos (by omega)]
  · rw [if_neg c, if_neg (by omega)]
theorem flipTo_next (f : Nat → Int) (k : Nat) : arr 16 (flipTo f k 4) = arr 16 (flipTo f (k + 1) 0) := arr_congr fun i hi => by
  unfold flipTo
  by_cases c : i % 4 < k + 1
  · rw [if_pos (by omega), if_pos (by omega)]
  · rw [if_neg (by omega), if_neg (by omega)]
theorem flipTo_full (f : Nat → Int) : arr 16 (flipTo f 4 0) = arr 16 (flipF f) := arr_congr fun i hi => by
  unfold flipTo
  rw [if_pos (by omega)]
set_option maxHeartbeats 400000 in
theorem flipped_any (f : Nat → Int) (w : World) :
    Calls Try.prog 57 #[.agg (arr 16 f)] w fun e w' => e = .returned (.agg (arr 16 (flipF f))) ∧ Below w.heap.size w w' := by
  go_enter Try.func57, Try.ntmps57
  go_wp2_with (refine wpList_load_mid (by rfl) _ _ (by rfl) _ 0 (by rfl) (arr 16 f).toList _ (range_of_arr (((Blk.new w _ _).alloc _).alloc _) 0 16 (by omega)) Try.underlying42 (by rfl) (by rw [Array.length_toList, arr_size]; exact size42) ?_)
  generalize hW : World.alloc (World.alloc (World.alloc w _) _) _ = W
  have B1 : Blk W (w.heap.size + 1) (arr 16 (fun _ => 0)) 44 := by rw [← hW]; exact (Blk.new' _ _ (by simp)).alloc _
  have B2 : Blk W (w.heap.size + 1 + 1) (arr 16 (fun _ => 0)) 44 := by rw [← hW]; exact Blk.new' _ _ (by simp)
  have hb0 : Below w.heap.size w W := by rw [← hW]; exact (((Below.refl _ _).alloc (Nat.le_refl _) _).alloc (by simp) _).alloc (by simp; omega) _
  clear hW
  generalize hs : w.heap.size = s at *
  go_loopw [10] (fun i wr => ∃ k : Nat, k ≤ 4 ∧ i = .int .i64 (k : Int) ∧ Blk wr (s + 1) (arr 16 (fun _ => 0)) 44 ∧ Blk wr (s + 1 + 1) (arr 16 (flipTo f k 0)) 44 ∧ Below s w wr) (fun i _ => 4 - (intOf i).toNat)
  case atStart => exact ⟨0, by omega, rfl, B1, B2, hb0⟩
  case round =>
    obtain ⟨k, hk, rfl, b1, b2, hb⟩ := hrel
    clear B1 B2 hb0
    by_cases hlt : k < 4
    · have l0 : (0 : Int) ≤ (k : Int) := by omega
      have l1 : (k : Int) < 4 := by omega
      have hidx : ∀ W, (Instr.index 42 (.agg (arr 16 f)) (.int .i64 (k : Int))).run Try.prog W = .ok (.agg (arr 4 (fun i => f (k * 4 + i)))) W := fun W => index_row Try.underlying42 size41 (agg41 W) f k hlt rfl
      have hst := run_storeCells_new (P := Try.prog) wr 41 #[.int .i64 0, .int .i64 0, .int .i64 0, .int .i64 0] (arr 4 (fun i => f (k * 4 + i))) (by rw [arr_size]; exact size41) (by rw [arr_size]; rfl) (arr_one _ _)
      go_wp2_with (refine wpList_load_mid (by rfl) _ _ (by rfl) _ 0 (by rfl) (arr 4 (fun i => f (k * 4 + i))).toList _ (range_of_arr (Blk.new wr _ _) 0 4 (by omega)) Try.underlying41 (by rfl) (by rw [Array.length_toList, arr_size]; exact size41) ?_)
      generalize hV : World.alloc wr _ = V
      have hbV : Below s w V := by rw [← hV]; exact hb.alloc (by rw [← hs]; exact hb.size) _
      have B1 : Blk V (s + 1) (arr 16 (fun _ => 0)) 44 := by rw [← hV]; exact b1.alloc _
      have B2 : Blk V (s + 1 + 1) (arr 16 (flipTo f k 0)) 44 := by rw [← hV]; exact b2.alloc _
      clear hV hidx hst b1 b2 hb
      go_loopw [15] (fun i wr => ∃ j : Nat, j ≤ 4 ∧ i = .int .i64 (j : Int) ∧ Blk wr (s + 1) (arr 16 (fun _ => 0)) 44 ∧ Blk wr (s + 1 + 1) (arr 16 (flipTo f k j)) 44 ∧ Below s w wr) (fun i _ => 4 - (intOf i).toNat)
      case atStart => exact ⟨0, by omega, rfl, B1, B2, hbV⟩
      case round =>
        obtain ⟨j, hj, rfl, b1, b2, hb⟩ := hrel
        clear B1 B2 hbV
        have q0 : (0 : Int) ≤ (j : Int) := by omega
        by_cases hlj : j < 4
        · have q1 : (j : Int) < 4 := by omega
          have hidx : ∀ W, (Instr.index 41 (.agg (arr 4 (fun i => f (k * 4 + i)))) (.int .i64 (j : Int))).run Try.prog W = .ok (.int .i64 (f (k * 4 + j))) W := fun W => index_num Try.underlying41 size3 (agg3 W) _ j hlj
          have hc : wr.cell? ⟨s + 1 + 1, j * 4 + k, none⟩ = some (.int .i64 (flipTo f k j (j * 4 + k))) := by rw [b2.cell, arr_get _ (by omega)]
          have hf : wr.frozen? ⟨s + 1 + 1, j * 4 + k, none⟩ = false := b2.frozen _
          have hset := b2.set (j * 4 + k) (.int .i64 (f (k * 4 + j))) (by rw [arr_size]; omega)
          rw [arr_set (g := flipTo f k (j + 1)) _ (flipTo_hit f k j hlt hlj) (flipTo_not f k j hlt hlj)] at hset
          have hoth := b1.other ⟨s + 1 + 1, j * 4 + k, none⟩ (.int .i64 (f (k * 4 + j))) (by simp)
          have hbb := hb.setCell (p := ⟨s + 1 + 1, j * 4 + k, none⟩) (by simp; omega) (.int .i64 (f (k * 4 + j)))
          go_wp2_with fail
          refine ⟨⟨j + 1, by omega, by go_num, hoth, hset, hbb⟩, ?_⟩
          simp [intOf]; omega
        · obtain rfl : j = 4 := by omega
          rw [flipTo_next f k] at b2
          go_wp2_with fail
          refine ⟨⟨k + 1, by omega, by go_num, b1, b2, hb⟩, ?_⟩
          simp [intOf]; omega
    · obtain rfl : k = 4 := by omega
      rw [flipTo_full f] at b2
      have HZ : Hid (Blk (wr.setCells (s + 1) 0 (arr 16 (flipF f)).toList) (s + 1) (arr 16 (flipF f)) 44) := arr_store (k := flipF f) b1 0 16 (by omega) (fun i hi => by rw [Nat.zero_add]) (fun i hi h => by omega)
      have hbb := below_setCells (g := s + 1) (by omega) (arr 16 (flipF f)).toList 0 wr hb
      have rg : wr.rangeAt (s + 1 + 1) 0 (arr 16 (flipF f)).toList := by have := range_of_arr b2 0 16 (by omega); simpa only [Nat.zero_add] using this
      have th := there_of_arr b1 0 16 (by omega)
      clear b1 b2 hb hlt hk
      go_wp2_with (first
        | ((with_reducible refine at_load ?_); refine load_arr rfl _ _ rfl (s + 1 + 1) 0 rfl 16 (flipF f) rg Try.underlying44 rfl size44 ?_; simp only [Act.put, List.setIfInBounds_toArray, List.set_cons_zero, List.set_cons_succ])
        | ((with_reducible refine at_store ?_); refine store_arr rfl _ _ _ rfl (s + 1) 0 rfl 16 (flipF f) rfl th size44 ?_; clear th rg; generalize World.setCells wr (s + 1) 0 (arr 16 (flipF f)).toList = wz at *))
      refine bodyPost_ret (results_cell_row rfl _ _ (s + 1) 44 _ (0, 0) _ rfl HZ.out Try.underlying44 rfl (by rw [arr_size]; exact size44)) rfl ?_
      exact ⟨rfl, by rw [hs]; exact hbb⟩
end Go.Proofs.Ytholbbfibmnicaa
