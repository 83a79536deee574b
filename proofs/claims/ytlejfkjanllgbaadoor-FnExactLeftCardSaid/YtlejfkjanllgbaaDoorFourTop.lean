/-
  The walks of (impl.fourSquare).turned with each of the two turns, and of list.
-/
import Derived.Test.YtlejfkjanllgbaaDoorFourA
import Derived.Test.YtlejfkjanllgbaaDoorIntAll
namespace Go.Proofs.YtlejfkjanllgbaaDoor
open Go.RowKit
set_option linter.unusedVariables false
set_option maxRecDepth 20000

theorem agg42 (w : World) : (isAgg 87).run Tryd.prog w = .ok true w := by
  unfold isAgg
  rw [Sem.run_bind, run_underlying Tryd.underlying87 w]
  rfl
/-- == on a square and noughts, as the walk asks it. -/
theorem eq_square (f : Nat → Int) : ∀ W : World, (Op.equalIn 9999 87 (.agg ((arr 16 f).extract 0 16)) (.agg #[.int .i64 0, .int .i64 0, .int .i64 0, .int .i64 0, .int .i64 0, .int .i64 0, .int .i64 0, .int .i64 0, .int .i64 0, .int .i64 0, .int .i64 0, .int .i64 0, .int .i64 0, .int .i64 0, .int .i64 0, .int .i64 0])).run Tryd.prog W = .ok ((List.range 4).all (fun i => (List.range 4).all (fun j => f (i * 4 + j) == 0))) W := fun W => by
  have h := eq_rows W 9996 87 86 3 4 4 16 .i64 Tryd.underlying87 size41 (agg41 W) Tryd.underlying86 size3 (agg3 W) Tryd.underlying3 rfl f (fun _ => 0)
  have e : (arr 16 f).extract 0 16 = arr 16 f := by
    have := arr_extract (n := 16) (o := 0) (m := 16) f (by omega)
    simpa only [Nat.zero_add] using this
  rw [e]
  exact h
theorem sq_zero {f : Nat → Int} (h : (List.range 4).all (fun i => (List.range 4).all (fun j => f (i * 4 + j) == 0)) = true) : ∀ i, i < 16 → f i = 0 := fun i hi => by
  have := (all_rows_iff (g := fun _ => 0)).1 h (i / 4) (by omega) (i % 4) (by omega)
  rwa [show i / 4 * 4 + i % 4 = i by omega] at this

set_option maxHeartbeats 1600000 in
theorem sums_turned (f : Nat → Int) (w : World) (hf : In 10000000 16 f) :
    Calls Tryd.prog 99 #[.agg (arr 16 f), .func (Fn.func 100) #[] #[]] w fun e w' => e = .returned (.agg (arr 16 (turnF sumR f))) ∧ Below w.heap.size w w' := by
  have he := eq_square f
  cases hb : (List.range 4).all (fun i => (List.range 4).all (fun j => f (i * 4 + j) == 0)) with
  | true =>
    have HT : Hid (arr 16 (turnF sumR f) = arr 16 f) := arr_congr (turn_zero sum_zero (sq_zero hb))
    rw [hb] at he
    clear hb
    go_enter Tryd.func99, Tryd.ntmps99
    go_wp2_with (first
      | ((with_reducible refine at_load ?_); first | (refine load_arr rfl _ _ rfl w.heap.size 0 rfl 16 f (range_all b0) Tryd.underlying89 rfl size44 ?_; simp only [Act.put, List.setIfInBounds_toArray, List.set_cons_zero, List.set_cons_succ]) | (generalize hV : World.alloc (World.alloc w _) _ = V; have b0 : Blk V w.heap.size (arr 16 f) 89 := (by rw [← hV]; exact (Blk.new w _ _).alloc _); have b1 : Blk V (w.heap.size + 1) (arr 16 (fun _ => 0)) 89 := (by rw [← hV]; exact Blk.new' _ _ (by simp)); have hb : Below w.heap.size w V := (by rw [← hV]; exact ((Below.refl _ _).alloc (Nat.le_refl _) _).alloc (by simp) _); clear hV; refine load_arr rfl _ _ rfl w.heap.size 0 rfl 16 f (range_all b0) Tryd.underlying89 rfl size44 ?_; simp only [Act.put, List.setIfInBounds_toArray, List.set_cons_zero, List.set_cons_succ]))
      | ((with_reducible refine at_store ?_); refine store_arr rfl _ _ _ rfl (w.heap.size + 1) 0 rfl 16 f rfl (there_of_arr b1 0 16 (by omega)) size44 ?_; have HZ : Hid (Blk (V.setCells (w.heap.size + 1) 0 (arr 16 f).toList) (w.heap.size + 1) (arr 16 f) 89) := (arr_store (k := f) b1 0 16 (by omega) (fun i hi => by rw [Nat.zero_add]) (fun i hi h => by omega)); have hbb := below_setCells (g := w.heap.size + 1) (by omega) (arr 16 f).toList 0 V hb; generalize World.setCells V (w.heap.size + 1) 0 (arr 16 f).toList = Z at *))
    refine bodyPost_ret (results_cell_row rfl _ _ (w.heap.size + 1) 89 _ (0, 0) _ rfl HZ.out Tryd.underlying89 rfl (by rw [arr_size]; exact size44)) rfl ?_
    exact ⟨by rw [HT.out], hbb⟩
  | false =>
    rw [hb] at he
    clear hb
    have H1 : Hid (∀ w', Calls Tryd.prog 121 #[.agg (arr 16 f), .func (Fn.func 100) #[] #[]] w' (fun e w'' => e = .returned (.agg (arr 16 (rowsF sumR f))) ∧ Below w'.heap.size w' w'')) := fun w' => sums_rows f w' (fun i hi => by have := hf i hi; omega)
    have H2 : Hid (∀ w', Calls Tryd.prog 122 #[.agg (arr 16 (rowsF sumR f))] w' (fun e w'' => e = .returned (.agg (arr 16 (flipF (rowsF sumR f)))) ∧ Below w'.heap.size w' w'')) := fun w' => flipped_any _ w'
    have H3 : Hid (∀ w', Calls Tryd.prog 121 #[.agg (arr 16 (flipF (rowsF sumR f))), .func (Fn.func 100) #[] #[]] w' (fun e w'' => e = .returned (.agg (arr 16 (rowsF sumR (flipF (rowsF sumR f))))) ∧ Below w'.heap.size w' w'')) := fun w' => sums_rows _ w' (fun i hi => by have := hf.sums.flip i hi; omega)
    have H4 : Hid (∀ w', Calls Tryd.prog 122 #[.agg (arr 16 (rowsF sumR (flipF (rowsF sumR f))))] w' (fun e w'' => e = .returned (.agg (arr 16 (turnF sumR f))) ∧ Below w'.heap.size w' w'')) := fun w' => flipped_any _ w'
    obtain ⟨f4, hf4⟩ : ∃ g, turnF sumR f = g := ⟨_, rfl⟩
    have HF : Hid (turnF sumR f = f4) := hf4
    rw [hf4] at H4
    clear hf4
    generalize rowsF sumR (flipF (rowsF sumR f)) = f3 at *
    generalize flipF (rowsF sumR f) = f2 at *
    generalize rowsF sumR f = f1 at *
    go_enter Tryd.func99, Tryd.ntmps99
    go_wp2_with (first
      | ((with_reducible refine at_load ?_); first | (refine load_arr rfl _ _ rfl w.heap.size 0 rfl 16 f (range_all b0) Tryd.underlying89 rfl size44 ?_; simp only [Act.put, List.setIfInBounds_toArray, List.set_cons_zero, List.set_cons_succ]) | (generalize hV : World.alloc (World.alloc w _) _ = V; have b0 : Blk V w.heap.size (arr 16 f) 89 := (by rw [← hV]; exact (Blk.new w _ _).alloc _); have b1 : Blk V (w.heap.size + 1) (arr 16 (fun _ => 0)) 89 := (by rw [← hV]; exact Blk.new' _ _ (by simp)); have hb : Below w.heap.size w V := (by rw [← hV]; exact ((Below.refl _ _).alloc (Nat.le_refl _) _).alloc (by simp) _); clear hV; refine load_arr rfl _ _ rfl w.heap.size 0 rfl 16 f (range_all b0) Tryd.underlying89 rfl size44 ?_; simp only [Act.put, List.setIfInBounds_toArray, List.set_cons_zero, List.set_cons_succ]))
      | (go_at_call 121; first | (have hx := hc2; refine (H3.out _).mono ?_; rintro e w3 ⟨rfl, hc3⟩) | (refine (H1.out _).mono ?_; rintro e w1 ⟨rfl, hc1⟩))
      | (go_at_call 122; first | (have hx := hc3; refine (H4.out _).mono ?_; rintro e w4 ⟨rfl, hc4⟩; have hb4 := (((hc1.trans (hc2.mono hc1.size)).trans (hc3.mono (Nat.le_trans hc1.size hc2.size))).trans (hc4.mono (Nat.le_trans (Nat.le_trans hc1.size hc2.size) hc3.size))); have z1 := b1.below hb4 b1.lt; have zb := hb.trans (hb4.mono hb.size); clear hc1 hc2 hc3 hc4 hb4) | (refine (H2.out _).mono ?_; rintro e w2 ⟨rfl, hc2⟩))
      | ((with_reducible refine at_store ?_); refine store_arr rfl _ _ _ rfl (w.heap.size + 1) 0 rfl 16 f4 rfl (there_of_arr z1 0 16 (by omega)) size44 ?_; have HZ : Hid (Blk (w4.setCells (w.heap.size + 1) 0 (arr 16 f4).toList) (w.heap.size + 1) (arr 16 f4) 89) := (arr_store (k := f4) z1 0 16 (by omega) (fun i hi => by rw [Nat.zero_add]) (fun i hi h => by omega)); have hbb := below_setCells (g := w.heap.size + 1) (by omega) (arr 16 f4).toList 0 w4 zb; generalize World.setCells w4 (w.heap.size + 1) 0 (arr 16 f4).toList = Z at *))
    refine bodyPost_ret (results_cell_row rfl _ _ (w.heap.size + 1) 89 _ (0, 0) _ rfl HZ.out Tryd.underlying89 rfl (by rw [arr_size]; exact size44)) rfl ?_
    exact ⟨by rw [HF.out], hbb⟩
set_option maxHeartbeats 1600000 in
theorem baks_turned (f : Nat → Int) (w : World) (hf : In 10000000 16 f) :
    Calls Tryd.prog 99 #[.agg (arr 16 f), .func (Fn.func 111) #[] #[]] w fun e w' => e = .returned (.agg (arr 16 (turnF bakR f))) ∧ Below w.heap.size w w' := by
  have he := eq_square f
  cases hb : (List.range 4).all (fun i => (List.range 4).all (fun j => f (i * 4 + j) == 0)) with
  | true =>
    have HT : Hid (arr 16 (turnF bakR f) = arr 16 f) := arr_congr (turn_zero bak_zero (sq_zero hb))
    rw [hb] at he
    clear hb
    go_enter Tryd.func99, Tryd.ntmps99
    go_wp2_with (first
      | ((with_reducible refine at_load ?_); first | (refine load_arr rfl _ _ rfl w.heap.size 0 rfl 16 f (range_all b0) Tryd.underlying89 rfl size44 ?_; simp only [Act.put, List.setIfInBounds_toArray, List.set_cons_zero, List.set_cons_succ]) | (generalize hV : World.alloc (World.alloc w _) _ = V; have b0 : Blk V w.heap.size (arr 16 f) 89 := (by rw [← hV]; exact (Blk.new w _ _).alloc _); have b1 : Blk V (w.heap.size + 1) (arr 16 (fun _ => 0)) 89 := (by rw [← hV]; exact Blk.new' _ _ (by simp)); have hb : Below w.heap.size w V := (by rw [← hV]; exact ((Below.refl _ _).alloc (Nat.le_refl _) _).alloc (by simp) _); clear hV; refine load_arr rfl _ _ rfl w.heap.size 0 rfl 16 f (range_all b0) Tryd.underlying89 rfl size44 ?_; simp only [Act.put, List.setIfInBounds_toArray, List.set_cons_zero, List.set_cons_succ]))
      | ((with_reducible refine at_store ?_); refine store_arr rfl _ _ _ rfl (w.heap.size + 1) 0 rfl 16 f rfl (there_of_arr b1 0 16 (by omega)) size44 ?_; have HZ : Hid (Blk (V.setCells (w.heap.size + 1) 0 (arr 16 f).toList) (w.heap.size + 1) (arr 16 f) 89) := (arr_store (k := f) b1 0 16 (by omega) (fun i hi => by rw [Nat.zero_add]) (fun i hi h => by omega)); have hbb := below_setCells (g := w.heap.size + 1) (by omega) (arr 16 f).toList 0 V hb; generalize World.setCells V (w.heap.size + 1) 0 (arr 16 f).toList = Z at *))
    refine bodyPost_ret (results_cell_row rfl _ _ (w.heap.size + 1) 89 _ (0, 0) _ rfl HZ.out Tryd.underlying89 rfl (by rw [arr_size]; exact size44)) rfl ?_
    exact ⟨by rw [HT.out], hbb⟩
  | false =>
    rw [hb] at he
    clear hb
    have H1 : Hid (∀ w', Calls Tryd.prog 121 #[.agg (arr 16 f), .func (Fn.func 111) #[] #[]] w' (fun e w'' => e = .returned (.agg (arr 16 (rowsF bakR f))) ∧ Below w'.heap.size w' w'')) := fun w' => baks_rows f w' (fun i hi => by have := hf i hi; omega)
    have H2 : Hid (∀ w', Calls Tryd.prog 122 #[.agg (arr 16 (rowsF bakR f))] w' (fun e w'' => e = .returned (.agg (arr 16 (flipF (rowsF bakR f)))) ∧ Below w'.heap.size w' w'')) := fun w' => flipped_any _ w'
    have H3 : Hid (∀ w', Calls Tryd.prog 121 #[.agg (arr 16 (flipF (rowsF bakR f))), .func (Fn.func 111) #[] #[]] w' (fun e w'' => e = .returned (.agg (arr 16 (rowsF bakR (flipF (rowsF bakR f))))) ∧ Below w'.heap.size w' w'')) := fun w' => baks_rows _ w' (fun i hi => by have := (hf.baks (by omega)).flip i hi; omega)
    have H4 : Hid (∀ w', Calls Tryd.prog 122 #[.agg (arr 16 (rowsF bakR (flipF (rowsF bakR f))))] w' (fun e w'' => e = .returned (.agg (arr 16 (turnF bakR f))) ∧ Below w'.heap.size w' w'')) := fun w' => flipped_any _ w'
    obtain ⟨f4, hf4⟩ : ∃ g, turnF bakR f = g := ⟨_, rfl⟩
    have HF : Hid (turnF bakR f = f4) := hf4
    rw [hf4] at H4
    clear hf4
    generalize rowsF bakR (flipF (rowsF bakR f)) = f3 at *
    generalize flipF (rowsF bakR f) = f2 at *
    generalize rowsF bakR f = f1 at *
    go_enter Tryd.func99, Tryd.ntmps99
    go_wp2_with (first
      | ((with_reducible refine at_load ?_); first | (refine load_arr rfl _ _ rfl w.heap.size 0 rfl 16 f (range_all b0) Tryd.underlying89 rfl size44 ?_; simp only [Act.put, List.setIfInBounds_toArray, List.set_cons_zero, List.set_cons_succ]) | (generalize hV : World.alloc (World.alloc w _) _ = V; have b0 : Blk V w.heap.size (arr 16 f) 89 := (by rw [← hV]; exact (Blk.new w _ _).alloc _); have b1 : Blk V (w.heap.size + 1) (arr 16 (fun _ => 0)) 89 := (by rw [← hV]; exact Blk.new' _ _ (by simp)); have hb : Below w.heap.size w V := (by rw [← hV]; exact ((Below.refl _ _).alloc (Nat.le_refl _) _).alloc (by simp) _); clear hV; refine load_arr rfl _ _ rfl w.heap.size 0 rfl 16 f (range_all b0) Tryd.underlying89 rfl size44 ?_; simp only [Act.put, List.setIfInBounds_toArray, List.set_cons_zero, List.set_cons_succ]))
      | (go_at_call 121; first | (have hx := hc2; refine (H3.out _).mono ?_; rintro e w3 ⟨rfl, hc3⟩) | (refine (H1.out _).mono ?_; rintro e w1 ⟨rfl, hc1⟩))
      | (go_at_call 122; first | (have hx := hc3; refine (H4.out _).mono ?_; rintro e w4 ⟨rfl, hc4⟩; have hb4 := (((hc1.trans (hc2.mono hc1.size)).trans (hc3.mono (Nat.le_trans hc1.size hc2.size))).trans (hc4.mono (Nat.le_trans (Nat.le_trans hc1.size hc2.size) hc3.size))); have z1 := b1.below hb4 b1.lt; have zb := hb.trans (hb4.mono hb.size); clear hc1 hc2 hc3 hc4 hb4) | (refine (H2.out _).mono ?_; rintro e w2 ⟨rfl, hc2⟩))
      | ((with_reducible refine at_store ?_); refine store_arr rfl _ _ _ rfl (w.heap.size + 1) 0 rfl 16 f4 rfl (there_of_arr z1 0 16 (by omega)) size44 ?_; have HZ : Hid (Blk (w4.setCells (w.heap.size + 1) 0 (arr 16 f4).toList) (w.heap.size + 1) (arr 16 f4) 89) := (arr_store (k := f4) z1 0 16 (by omega) (fun i hi => by rw [Nat.zero_add]) (fun i hi h => by omega)); have hbb := below_setCells (g := w.heap.size + 1) (by omega) (arr 16 f4).toList 0 w4 zb; generalize World.setCells w4 (w.heap.size + 1) 0 (arr 16 f4).toList = Z at *))
    refine bodyPost_ret (results_cell_row rfl _ _ (w.heap.size + 1) 89 _ (0, 0) _ rfl HZ.out Tryd.underlying89 rfl (by rw [arr_size]; exact size44)) rfl ?_
    exact ⟨by rw [HF.out], hbb⟩
end Go.Proofs.YtlejfkjanllgbaaDoor
