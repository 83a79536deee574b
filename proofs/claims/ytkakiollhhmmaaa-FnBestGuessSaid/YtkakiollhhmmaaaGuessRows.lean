/-
  A guess, row by row: the walks of (impl.slopeGuess).row, impl.rowOf and the modes' methods.
-/
import Derived.Test.YtkakiollhhmmaaaGuessKit
import Derived.Deep.RegionHeld3
namespace Go.Proofs.Ytkakiollhhmmaaa
open Go.RowKit
set_option linter.unusedVariables false
set_option maxRecDepth 20000

theorem size17 : (Try.prog.info? 75).map (·.size) = some 17 := by kernel_rfl
theorem size8d : (Try.prog.info? 71).map (·.size) = some 8 := by kernel_rfl
theorem size8a : (Try.prog.info? 73).map (·.size) = some 8 := by kernel_rfl

/-- A row of a slope. -/
def slopeR (f : Nat → Int) (r i : Nat) : Int := brF (f (8 + r) + f i - f 16) 0 255
def slopeTo (f : Nat → Int) (r k i : Nat) : Int := if i < k then slopeR f r i else 0
theorem slopeTo_none (f : Nat → Int) (r : Nat) : arr 8 (slopeTo f r 0) = arr 8 (fun _ => 0) := arr_congr fun i hi => by unfold slopeTo; rw [if_neg (by omega)]
theorem slopeTo_full (f : Nat → Int) (r : Nat) : arr 8 (slopeTo f r 8) = arr 8 (slopeR f r) := arr_congr fun i hi => by unfold slopeTo; rw [if_pos hi]
theorem slopeTo_hit (f : Nat → Int) (r k : Nat) : slopeTo f r (k + 1) k = slopeR f r k := by unfold slopeTo; rw [if_pos (by omega)]
theorem slopeTo_not (f : Nat → Int) (r k : Nat) : ∀ i, i ≠ k → slopeTo f r (k + 1) i = slopeTo f r k i := fun i hi => by
  unfold slopeTo
  by_cases h : i < k
  · rw [if_pos h, if_pos (by omega)]
  · rw [if_neg h, if_neg (by omega)]

set_option maxHeartbeats 800000 in
theorem slopeRow_any (f : Nat → Int) (r : Nat) (w : World) (hr : r < 8) (hf : ∀ i, i < 17 → 0 ≤ f i ∧ f i ≤ 255) :
    Calls Try.prog 56 #[.agg (arr 17 f), .int .i64 (r : Int)] w fun e w' => e = .returned (.agg (arr 8 (slopeR f r))) ∧ Below w.heap.size w w' := by
  have HF : Hid (∀ i, i < 17 → 0 ≤ f i ∧ f i ≤ 255) := hf
  have r0 : (0 : Int) ≤ (r : Int) := by omega
  have r1 : (r : Int) < 8 := by omega
  have hidx : ∀ (k : Nat), k < 8 → ∀ W, (Instr.index 65 (.agg (arr 8 f)) (.int .i64 (k : Int))).run Try.prog W = .ok (.int .i64 (f k)) W := fun k hk W => index_num Try.underlying65 size3G (agg3G W) f k hk
  have HX : Hid (∀ (k : Nat), k < 8 → ∀ W, (Instr.index 65 (.agg (arr 8 f)) (.int .i64 (k : Int))).run Try.prog W = .ok (.int .i64 (f k)) W) := hidx
  clear hf hidx
  go_enter Try.func56, Try.ntmps56
  go_wp2_with ((with_reducible refine at_load ?_); generalize hV : World.alloc (World.alloc (World.alloc w _) _) _ = W; have B0 : Blk W w.heap.size (arr 17 f) 75 := (by rw [← hV]; exact ((Blk.new w _ _).alloc _).alloc _); have B1 : Blk W (w.heap.size + 1) (arr 8 (fun _ => 0)) 65 := (by rw [← hV]; exact (Blk.new' _ _ (by simp)).alloc _); have B2 : Blk W (w.heap.size + 1 + 1) (arr 8 (fun _ => 0)) 65 := (by rw [← hV]; exact Blk.new' _ _ (by simp)); have hb0 : Below w.heap.size w W := (by rw [← hV]; exact (((Below.refl _ _).alloc (Nat.le_refl _) _).alloc (by simp) _).alloc (by simp; omega) _); clear hV; have rg := range_of_arr B0 0 8 (by omega); simp only [Nat.zero_add] at rg; refine load_arr rfl _ _ rfl w.heap.size 0 rfl 8 f rg Try.underlying65 rfl size8 ?_; clear rg; simp only [Act.put, List.setIfInBounds_toArray, List.set_cons_zero, List.set_cons_succ])
  generalize hs : w.heap.size = s at *
  go_loopw [10] (fun i wr => ∃ k : Nat, k ≤ 8 ∧ i = .int .i64 (k : Int) ∧ Blk wr s (arr 17 f) 75 ∧ Blk wr (s + 1) (arr 8 (fun _ => 0)) 65 ∧ Blk wr (s + 1 + 1) (arr 8 (slopeTo f r k)) 65 ∧ Below s w wr) (fun i _ => 8 - (intOf i).toNat)
  case atStart => exact ⟨0, by omega, rfl, B0, B1, by rw [slopeTo_none]; exact B2, hb0⟩
  case round =>
    obtain ⟨k, hk, rfl, b0, b1, b2, hb⟩ := hrel
    clear B0 B1 B2 hb0
    by_cases hlt : k < 8
    · have l0 : (0 : Int) ≤ (k : Int) := by omega
      have l1 : (k : Int) < 8 := by omega
      have hidx := HX.out k hlt
      obtain ⟨p0, p1⟩ := HF.out k (by omega)
      obtain ⟨q0, q1⟩ := HF.out (8 + r) (by omega)
      obtain ⟨c0, c1⟩ := HF.out 16 (by omega)
      have HS : Hid (slopeTo f r (k + 1) k = brF (f (8 + r) + f k - f 16) 0 255) := slopeTo_hit f r k
      have e1 : wr.cell? ⟨s, 8 + r, none⟩ = some (.int .i64 (f (8 + r))) := by rw [b0.cell, arr_get _ (by omega)]
      have e2 : wr.cell? ⟨s, 16, none⟩ = some (.int .i64 (f 16)) := by rw [b0.cell, arr_get _ (by omega)]
      have hce : wr.cell? ⟨s + 1 + 1, k, none⟩ = some (.int .i64 (slopeTo f r k k)) := by rw [b2.cell, arr_get _ (by omega)]
      have hfz : wr.frozen? ⟨s + 1 + 1, k, none⟩ = false := b2.frozen _
      obtain ⟨z, hz⟩ : ∃ z, z = brF (f (8 + r) + f k - f 16) 0 255 := ⟨_, rfl⟩
      have HC : Hid (∀ w', Calls Try.prog 60 #[.int .i64 (f (8 + r) + f k - f 16), .int .i64 0, .int .i64 255] w' fun e w'' => e = .returned (.int .i64 z) ∧ w'' = w') := fun w' => by rw [hz]; exact implBrought _ 0 255 w'
      rw [← hz] at HS
      clear hz
      have z2 := b2.set k (.int .i64 z) (by rw [arr_size]; omega)
      rw [arr_set (g := slopeTo f r (k + 1)) z HS.out (slopeTo_not f r k)] at z2
      have z1 := b1.other ⟨s + 1 + 1, k, none⟩ (.int .i64 z) (by simp)
      have z0 := b0.other ⟨s + 1 + 1, k, none⟩ (.int .i64 z) (by simp; omega)
      have zb := hb.setCell (p := ⟨s + 1 + 1, k, none⟩) (by simp; omega) (.int .i64 z)
      clear b0 b1 b2
      generalize slopeTo f r k k = y at *
      generalize f (8 + r) = u at *
      generalize f k = v at *
      generalize f 16 = c at *
      have hw1 : IntKind.i64.wrap (u + v) = u + v := IntWalk.i64_in _ ⟨by omega, by omega⟩
      have hw2 : IntKind.i64.wrap (u + v - c) = u + v - c := IntWalk.i64_in _ ⟨by omega, by omega⟩
      go_wp2_with fail
      go_region_with ((go_at_call 60; refine (HC.out _).mono ?_; rintro e w2 ⟨rfl, hx⟩; subst w2))
      all_goals
        go_wp2
        refine ⟨⟨k + 1, by omega, by go_num, z0.drew, z1.drew, z2.drew, zb.drew⟩, ?_⟩
        simp [intOf]; omega
    · obtain rfl : k = 8 := by omega
      rw [slopeTo_full] at b2
      obtain ⟨ρ, hρ⟩ : ∃ ρ, ρ = slopeR f r := ⟨_, rfl⟩
      have HR : Hid (slopeR f r = ρ) := hρ.symm
      rw [← hρ] at b2
      clear hρ
      have HZ : Hid (Blk (wr.setCells (s + 1) 0 (arr 8 ρ).toList) (s + 1) (arr 8 ρ) 65) := arr_store (k := ρ) b1 0 8 (by omega) (fun i hi => by rw [Nat.zero_add]) (fun i hi h => by omega)
      have hbb := below_setCells (g := s + 1) (by omega) (arr 8 ρ).toList 0 wr hb
      have rg := range_all b2
      have th := there_of_arr b1 0 8 (by omega)
      clear b0 b1 b2 hb hlt hk
      go_wp2_with (first
        | ((with_reducible refine at_load ?_); refine load_arr rfl _ _ rfl (s + 1 + 1) 0 rfl 8 ρ rg Try.underlying65 rfl size8 ?_; simp only [Act.put, List.setIfInBounds_toArray, List.set_cons_zero, List.set_cons_succ])
        | ((with_reducible refine at_store ?_); refine store_arr rfl _ _ _ rfl (s + 1) 0 rfl 8 ρ rfl th size8 ?_; clear th rg; generalize World.setCells wr (s + 1) 0 (arr 8 ρ).toList = wz at *))
      refine bodyPost_ret (results_cell_row rfl _ _ (s + 1) 65 _ (0, 0) _ rfl HZ.out Try.underlying65 rfl (by rw [arr_size]; exact size8)) rfl ?_
      exact ⟨by rw [HR.out], by rw [hs]; exact hbb⟩

/-! ### The four guesses -/
abbrev midV (d : Int) : Value := .iface 69 (.agg #[.int .i64 d])
abbrev downV (f : Nat → Int) : Value := .iface 71 (.agg (arr 8 f))
abbrev acrossV (f : Nat → Int) : Value := .iface 73 (.agg (arr 8 f))
abbrev slopeV (f : Nat → Int) : Value := .iface 75 (.agg (arr 17 f))

theorem mode0 (d : Int) (w : World) : Calls Try.prog 79 #[.agg #[.int .i64 d]] w fun e w' => e = .returned (.int .i64 0) ∧ Below w.heap.size w w' := by
  have hb := (Below.refl w.heap.size w).alloc (Nat.le_refl _) (.cells #[.int .i64 d] 69)
  go_enter Try.func79, Try.ntmps79
  go_wp2
  go_ret
  exact ⟨rfl, hb⟩
theorem mode1 (f : Nat → Int) (w : World) : Calls Try.prog 80 #[.agg (arr 8 f)] w fun e w' => e = .returned (.int .i64 1) ∧ Below w.heap.size w w' := by
  have hb := (Below.refl w.heap.size w).alloc (Nat.le_refl _) (.cells (arr 8 f) 71)
  go_enter Try.func80, Try.ntmps80
  go_wp2
  go_ret
  exact ⟨rfl, hb⟩
theorem mode2 (f : Nat → Int) (w : World) : Calls Try.prog 81 #[.agg (arr 8 f)] w fun e w' => e = .returned (.int .i64 2) ∧ Below w.heap.size w w' := by
  have hb := (Below.refl w.heap.size w).alloc (Nat.le_refl _) (.cells (arr 8 f) 73)
  go_enter Try.func81, Try.ntmps81
  go_wp2
  go_ret
  exact ⟨rfl, hb⟩
theorem mode3 (f : Nat → Int) (w : World) : Calls Try.prog 82 #[.agg (arr 17 f)] w fun e w' => e = .returned (.int .i64 3) ∧ Below w.heap.size w w' := by
  have hb := (Below.refl w.heap.size w).alloc (Nat.le_refl _) (.cells (arr 17 f) 75)
  go_enter Try.func82, Try.ntmps82
  go_wp2
  go_ret
  exact ⟨rfl, hb⟩

/-! ### What a type switch asks -/
theorem asks0 (v : Value) (w : World) : (Instr.typeAssert (.iface 69 v) 51 69 true).run Try.prog w = .ok (.tuple #[v, .bool true]) w := by kernel_rfl
theorem asks1 (v : Value) (w : World) : (Instr.typeAssert (.iface 71 v) 51 71 true).run Try.prog w = .ok (.tuple #[v, .bool true]) w := by kernel_rfl
theorem asks10 (v : Value) (w : World) : (Instr.typeAssert (.iface 71 v) 51 69 true).run Try.prog w = .ok (.tuple #[.agg #[.int .i64 0], .bool false]) w := by kernel_rfl
theorem asks2 (v : Value) (w : World) : (Instr.typeAssert (.iface 73 v) 51 73 true).run Try.prog w = .ok (.tuple #[v, .bool true]) w := by kernel_rfl
theorem asks20 (v : Value) (w : World) : (Instr.typeAssert (.iface 73 v) 51 69 true).run Try.prog w = .ok (.tuple #[.agg #[.int .i64 0], .bool false]) w := by kernel_rfl
theorem asks21 (v : Value) (w : World) : (Instr.typeAssert (.iface 73 v) 51 71 true).run Try.prog w = .ok (.tuple #[.agg (arr 8 (fun _ => 0)), .bool false]) w := by kernel_rfl
theorem asks3 (v : Value) (w : World) : (Instr.typeAssert (.iface 75 v) 51 75 true).run Try.prog w = .ok (.tuple #[v, .bool true]) w := by kernel_rfl
theorem asks30 (v : Value) (w : World) : (Instr.typeAssert (.iface 75 v) 51 69 true).run Try.prog w = .ok (.tuple #[.agg #[.int .i64 0], .bool false]) w := by kernel_rfl
theorem asks31 (v : Value) (w : World) : (Instr.typeAssert (.iface 75 v) 51 71 true).run Try.prog w = .ok (.tuple #[.agg (arr 8 (fun _ => 0)), .bool false]) w := by kernel_rfl
theorem asks32 (v : Value) (w : World) : (Instr.typeAssert (.iface 75 v) 51 73 true).run Try.prog w = .ok (.tuple #[.agg (arr 8 (fun _ => 0)), .bool false]) w := by kernel_rfl

set_option maxHeartbeats 1600000 in
theorem row_mid (d : Int) (r : Nat) (w : World) :
    Calls Try.prog 47 #[midV d, .int .i64 (r : Int)] w fun e w' => e = .returned (.agg (arr 8 (fun _ => d))) ∧ Below w.heap.size w w' := by
  have q0 := asks0 (.agg #[.int .i64 d])
  obtain ⟨ρ, hρ⟩ : ∃ ρ : Nat → Int, ρ = fun _ => d := ⟨_, rfl⟩
  have HC : Hid (∀ W, Calls Try.prog 54 #[.int .i64 d] W fun e w' => e = .returned (.agg (arr 8 ρ)) ∧ Below W.heap.size W w') := fun W => by rw [hρ]; exact flat_any d W
  rw [← hρ]
  clear hρ
  generalize hs : w.heap.size = s at *
  go_enter Try.func47, Try.ntmps47
  go_wp2_with fail
  generalize hV : World.alloc (World.alloc (World.alloc w _) _) _ = W
  have b1 : Blk W s (arr 8 (fun _ => 0)) 65 := (by rw [← hV, ← hs]; exact ((Blk.new w _ _).alloc _).alloc _)
  have b2 : Blk W (s + 1) (arr 8 (fun _ => 0)) 65 := (by rw [← hV, ← hs]; exact (Blk.new' _ _ (by simp)).alloc _)
  have b3 : Blk W (s + 1 + 1) #[.int .i64 d] 69 := (by rw [← hV, ← hs]; exact Blk.new' _ _ (by simp))
  have hb : Below s w W := (by rw [← hV, ← hs]; exact (((Below.refl _ _).alloc (Nat.le_refl _) _).alloc (by simp) _).alloc (by simp; omega) _)
  clear hV
  refine (HC.out W).mono ?_
  rintro e w1 ⟨rfl, hc⟩
  have e1 := b1.below hc b1.lt
  have e2 := b2.below hc b2.lt
  have he := hb.trans (hc.mono (by rw [← hs]; exact hb.size))
  clear hc b1 b2 b3 hb HC
  have b1 := e1
  have b2 := e2
  have hb := he
  clear e1 e2 he
  go_wp2_with (first
    | ((with_reducible refine at_store ?_); refine store_arr rfl _ _ _ rfl (s + 1) 0 rfl 8 (ρ) rfl (there_of_arr b2 0 8 (by omega)) size8 ?_; have d2 := (arr_store (k := ρ) b2 0 8 (by omega) (fun i hi => by rw [Nat.zero_add]) (fun i hi h => by omega)); have d1 := (b1.others (g' := s + 1) (by omega) (arr 8 (ρ)).toList 0); have hd := (below_setCells (g := s + 1) (by omega) (arr 8 (ρ)).toList 0 w1 hb); clear b1 b2 hb; generalize World.setCells w1 (s + 1) 0 (arr 8 (ρ)).toList = wy at *)
    | ((with_reducible refine at_load ?_); refine load_arr rfl _ _ rfl (s + 1) (0) rfl 8 (ρ) (range_all d2) Try.underlying65 rfl size8 ?_; simp only [Act.put, List.setIfInBounds_toArray, List.set_cons_zero, List.set_cons_succ])
    | ((with_reducible refine at_store ?_); refine store_arr rfl _ _ _ rfl (s) 0 rfl 8 (ρ) rfl (there_of_arr d1 0 8 (by omega)) size8 ?_; have HZ : Hid (Blk (World.setCells wy s 0 (arr 8 (ρ)).toList) s (arr 8 (ρ)) 65) := (arr_store (k := ρ) d1 0 8 (by omega) (fun i hi => by rw [Nat.zero_add]) (fun i hi h => by omega)); have hbb := (below_setCells (g := s) (Nat.le_refl _) (arr 8 (ρ)).toList 0 wy hd); clear d1 d2 hd; generalize World.setCells wy s 0 (arr 8 (ρ)).toList = wz at *))
  refine bodyPost_ret (results_cell_row rfl _ _ s 65 _ (0, 0) _ rfl HZ.out Try.underlying65 rfl (by rw [arr_size]; exact size8)) rfl ?_
  exact ⟨rfl, hbb⟩

set_option maxHeartbeats 1600000 in
theorem row_down (f : Nat → Int) (r : Nat) (w : World) :
    Calls Try.prog 47 #[downV f, .int .i64 (r : Int)] w fun e w' => e = .returned (.agg (arr 8 f)) ∧ Below w.heap.size w w' := by
  have q10 := asks10 (.agg (arr 8 f))
  have q1 := asks1 (.agg (arr 8 f))
  generalize hs : w.heap.size = s at *
  go_enter Try.func47, Try.ntmps47
  go_wp2_with (first
    | ((with_reducible refine at_store ?_); generalize hV : World.alloc (World.alloc (World.alloc w _) _) _ = W; have a1 : Blk W s (arr 8 (fun _ => 0)) 65 := (by rw [← hV, ← hs]; exact ((Blk.new w _ _).alloc _).alloc _); have a2 : Blk W (s + 1) (arr 8 (fun _ => 0)) 65 := (by rw [← hV, ← hs]; exact (Blk.new' _ _ (by simp)).alloc _); have a3 : Blk W (s + 1 + 1) (arr 8 (fun _ => 0)) 71 := (by rw [← hV, ← hs]; exact Blk.new' _ _ (by simp)); have ha : Below s w W := (by rw [← hV, ← hs]; exact (((Below.refl _ _).alloc (Nat.le_refl _) _).alloc (by simp) _).alloc (by simp; omega) _); clear hV; refine store_arr rfl _ _ _ rfl (s + 1 + 1) 0 rfl 8 f rfl (there_of_arr a3 0 8 (by omega)) size8d ?_; have b3 := (arr_store (k := f) a3 0 8 (by omega) (fun i hi => by rw [Nat.zero_add]) (fun i hi h => by omega)); have b1 := (a1.others (g' := s + 1 + 1) (by omega) (arr 8 f).toList 0); have b2 := (a2.others (g' := s + 1 + 1) (by omega) (arr 8 f).toList 0); have hb := (below_setCells (g := s + 1 + 1) (by omega) (arr 8 f).toList 0 W ha); clear a1 a2 a3 ha; generalize World.setCells W (s + 1 + 1) 0 (arr 8 f).toList = W1 at *)
    | ((with_reducible refine at_load ?_); refine load_arr rfl _ _ rfl (s + 1 + 1) (0) rfl 8 (f) (range_all b3) Try.underlying65 rfl size8 ?_; clear b3; simp only [Act.put, List.setIfInBounds_toArray, List.set_cons_zero, List.set_cons_succ])
    | ((with_reducible refine at_store ?_); refine store_arr rfl _ _ _ rfl (s + 1) 0 rfl 8 (f) rfl (there_of_arr b2 0 8 (by omega)) size8 ?_; have d2 := (arr_store (k := f) b2 0 8 (by omega) (fun i hi => by rw [Nat.zero_add]) (fun i hi h => by omega)); have d1 := (b1.others (g' := s + 1) (by omega) (arr 8 (f)).toList 0); have hd := (below_setCells (g := s + 1) (by omega) (arr 8 (f)).toList 0 W1 hb); clear b1 b2 hb; generalize World.setCells W1 (s + 1) 0 (arr 8 (f)).toList = wy at *)
    | ((with_reducible refine at_load ?_); refine load_arr rfl _ _ rfl (s + 1) (0) rfl 8 (f) (range_all d2) Try.underlying65 rfl size8 ?_; simp only [Act.put, List.setIfInBounds_toArray, List.set_cons_zero, List.set_cons_succ])
    | ((with_reducible refine at_store ?_); refine store_arr rfl _ _ _ rfl (s) 0 rfl 8 (f) rfl (there_of_arr d1 0 8 (by omega)) size8 ?_; have HZ : Hid (Blk (World.setCells wy s 0 (arr 8 (f)).toList) s (arr 8 (f)) 65) := (arr_store (k := f) d1 0 8 (by omega) (fun i hi => by rw [Nat.zero_add]) (fun i hi h => by omega)); have hbb := (below_setCells (g := s) (Nat.le_refl _) (arr 8 (f)).toList 0 wy hd); clear d1 d2 hd; generalize World.setCells wy s 0 (arr 8 (f)).toList = wz at *))
  refine bodyPost_ret (results_cell_row rfl _ _ s 65 _ (0, 0) _ rfl HZ.out Try.underlying65 rfl (by rw [arr_size]; exact size8)) rfl ?_
  exact ⟨rfl, hbb⟩

set_option maxHeartbeats 1600000 in
theorem row_across (f : Nat → Int) (r : Nat) (w : World) (hr : r < 8) :
    Calls Try.prog 47 #[acrossV f, .int .i64 (r : Int)] w fun e w' => e = .returned (.agg (arr 8 (fun _ => f r))) ∧ Below w.heap.size w w' := by
  have q20 := asks20 (.agg (arr 8 f))
  have q21 := asks21 (.agg (arr 8 f))
  have q2 := asks2 (.agg (arr 8 f))
  obtain ⟨ρ, hρ⟩ : ∃ ρ : Nat → Int, ρ = fun _ => f r := ⟨_, rfl⟩
  have HC : Hid (∀ W, Calls Try.prog 54 #[.int .i64 (f r)] W fun e w' => e = .returned (.agg (arr 8 ρ)) ∧ Below W.heap.size W w') := fun W => by rw [hρ]; exact flat_any (f r) W
  rw [← hρ]
  clear hρ
  generalize hs : w.heap.size = s at *
  have r0 : (0 : Int) ≤ (r : Int) := by omega
  have r1 : (r : Int) < 8 := by omega
  go_enter Try.func47, Try.ntmps47
  go_wp2_with (first
    | ((with_reducible refine at_store ?_); generalize hV : World.alloc (World.alloc (World.alloc w _) _) _ = W; have a1 : Blk W s (arr 8 (fun _ => 0)) 65 := (by rw [← hV, ← hs]; exact ((Blk.new w _ _).alloc _).alloc _); have a2 : Blk W (s + 1) (arr 8 (fun _ => 0)) 65 := (by rw [← hV, ← hs]; exact (Blk.new' _ _ (by simp)).alloc _); have a3 : Blk W (s + 1 + 1) (arr 8 (fun _ => 0)) 73 := (by rw [← hV, ← hs]; exact Blk.new' _ _ (by simp)); have ha : Below s w W := (by rw [← hV, ← hs]; exact (((Below.refl _ _).alloc (Nat.le_refl _) _).alloc (by simp) _).alloc (by simp; omega) _); clear hV; refine store_arr rfl _ _ _ rfl (s + 1 + 1) 0 rfl 8 f rfl (there_of_arr a3 0 8 (by omega)) size8a ?_; have b3 := (arr_store (k := f) a3 0 8 (by omega) (fun i hi => by rw [Nat.zero_add]) (fun i hi h => by omega)); have b1 := (a1.others (g' := s + 1 + 1) (by omega) (arr 8 f).toList 0); have b2 := (a2.others (g' := s + 1 + 1) (by omega) (arr 8 f).toList 0); have hb := (below_setCells (g := s + 1 + 1) (by omega) (arr 8 f).toList 0 W ha); clear a1 a2 a3 ha; generalize World.setCells W (s + 1 + 1) 0 (arr 8 f).toList = W1 at *; have ce : W1.cell? ⟨s + 1 + 1, r, none⟩ = some (.int .i64 (f r)) := (by rw [b3.cell, arr_get _ hr])))
  refine (HC.out W1).mono ?_
  clear ce
  rintro e w1 ⟨rfl, hc⟩
  have e1 := b1.below hc b1.lt
  have e2 := b2.below hc b2.lt
  have he := hb.trans (hc.mono (by rw [← hs]; exact hb.size))
  clear hc b1 b2 b3 hb HC
  have b1 := e1
  have b2 := e2
  have hb := he
  clear e1 e2 he
  go_wp2_with (first
    | ((with_reducible refine at_store ?_); refine store_arr rfl _ _ _ rfl (s + 1) 0 rfl 8 (ρ) rfl (there_of_arr b2 0 8 (by omega)) size8 ?_; have d2 := (arr_store (k := ρ) b2 0 8 (by omega) (fun i hi => by rw [Nat.zero_add]) (fun i hi h => by omega)); have d1 := (b1.others (g' := s + 1) (by omega) (arr 8 (ρ)).toList 0); have hd := (below_setCells (g := s + 1) (by omega) (arr 8 (ρ)).toList 0 w1 hb); clear b1 b2 hb; generalize World.setCells w1 (s + 1) 0 (arr 8 (ρ)).toList = wy at *)
    | ((with_reducible refine at_load ?_); refine load_arr rfl _ _ rfl (s + 1) (0) rfl 8 (ρ) (range_all d2) Try.underlying65 rfl size8 ?_; simp only [Act.put, List.setIfInBounds_toArray, List.set_cons_zero, List.set_cons_succ])
    | ((with_reducible refine at_store ?_); refine store_arr rfl _ _ _ rfl (s) 0 rfl 8 (ρ) rfl (there_of_arr d1 0 8 (by omega)) size8 ?_; have HZ : Hid (Blk (World.setCells wy s 0 (arr 8 (ρ)).toList) s (arr 8 (ρ)) 65) := (arr_store (k := ρ) d1 0 8 (by omega) (fun i hi => by rw [Nat.zero_add]) (fun i hi h => by omega)); have hbb := (below_setCells (g := s) (Nat.le_refl _) (arr 8 (ρ)).toList 0 wy hd); clear d1 d2 hd; generalize World.setCells wy s 0 (arr 8 (ρ)).toList = wz at *))
  refine bodyPost_ret (results_cell_row rfl _ _ s 65 _ (0, 0) _ rfl HZ.out Try.underlying65 rfl (by rw [arr_size]; exact size8)) rfl ?_
  exact ⟨rfl, hbb⟩

set_option maxHeartbeats 1600000 in
theorem row_slope (f : Nat → Int) (r : Nat) (w : World) (hr : r < 8) (hf : ∀ i, i < 17 → 0 ≤ f i ∧ f i ≤ 255) :
    Calls Try.prog 47 #[slopeV f, .int .i64 (r : Int)] w fun e w' => e = .returned (.agg (arr 8 (slopeR f r))) ∧ Below w.heap.size w w' := by
  have q30 := asks30 (.agg (arr 17 f))
  have q31 := asks31 (.agg (arr 17 f))
  have q32 := asks32 (.agg (arr 17 f))
  have q3 := asks3 (.agg (arr 17 f))
  obtain ⟨ρ, hρ⟩ : ∃ ρ : Nat → Int, ρ = slopeR f r := ⟨_, rfl⟩
  have HC : Hid (∀ W, Calls Try.prog 56 #[.agg (arr 17 f), .int .i64 (r : Int)] W fun e w' => e = .returned (.agg (arr 8 ρ)) ∧ Below W.heap.size W w') := fun W => by rw [hρ]; exact slopeRow_any f r W hr hf
  clear hf
  rw [← hρ]
  clear hρ
  generalize hs : w.heap.size = s at *
  go_enter Try.func47, Try.ntmps47
  go_wp2_with (first
    | ((with_reducible refine at_store ?_); generalize hV : World.alloc (World.alloc (World.alloc w _) _) _ = W; have a1 : Blk W s (arr 8 (fun _ => 0)) 65 := (by rw [← hV, ← hs]; exact ((Blk.new w _ _).alloc _).alloc _); have a2 : Blk W (s + 1) (arr 8 (fun _ => 0)) 65 := (by rw [← hV, ← hs]; exact (Blk.new' _ _ (by simp)).alloc _); have a3 : Blk W (s + 1 + 1) (arr 17 (fun _ => 0)) 75 := (by rw [← hV, ← hs]; exact Blk.new' _ _ (by simp)); have ha : Below s w W := (by rw [← hV, ← hs]; exact (((Below.refl _ _).alloc (Nat.le_refl _) _).alloc (by simp) _).alloc (by simp; omega) _); clear hV; refine store_arr rfl _ _ _ rfl (s + 1 + 1) 0 rfl 17 f rfl (there_of_arr a3 0 17 (by omega)) size17 ?_; have b3 := (arr_store (k := f) a3 0 17 (by omega) (fun i hi => by rw [Nat.zero_add]) (fun i hi h => by omega)); have b1 := (a1.others (g' := s + 1 + 1) (by omega) (arr 17 f).toList 0); have b2 := (a2.others (g' := s + 1 + 1) (by omega) (arr 17 f).toList 0); have hb := (below_setCells (g := s + 1 + 1) (by omega) (arr 17 f).toList 0 W ha); clear a1 a2 a3 ha; generalize World.setCells W (s + 1 + 1) 0 (arr 17 f).toList = W1 at *)
    | ((with_reducible refine at_load ?_); refine load_arr rfl _ _ rfl (s + 1 + 1) (0) rfl 17 (f) (range_all b3) Try.underlying75 rfl size17 ?_; simp only [Act.put, List.setIfInBounds_toArray, List.set_cons_zero, List.set_cons_succ]))
  refine (HC.out W1).mono ?_
  rintro e w1 ⟨rfl, hc⟩
  have e1 := b1.below hc b1.lt
  have e2 := b2.below hc b2.lt
  have he := hb.trans (hc.mono (by rw [← hs]; exact hb.size))
  clear hc b1 b2 b3 hb HC
  have b1 := e1
  have b2 := e2
  have hb := he
  clear e1 e2 he
  go_wp2_with (first
    | ((with_reducible refine at_store ?_); refine store_arr rfl _ _ _ rfl (s + 1) 0 rfl 8 (ρ) rfl (there_of_arr b2 0 8 (by omega)) size8 ?_; have d2 := (arr_store (k := ρ) b2 0 8 (by omega) (fun i hi => by rw [Nat.zero_add]) (fun i hi h => by omega)); have d1 := (b1.others (g' := s + 1) (by omega) (arr 8 (ρ)).toList 0); have hd := (below_setCells (g := s + 1) (by omega) (arr 8 (ρ)).toList 0 w1 hb); clear b1 b2 hb; generalize World.setCells w1 (s + 1) 0 (arr 8 (ρ)).toList = wy at *)
    | ((with_reducible refine at_load ?_); refine load_arr rfl _ _ rfl (s + 1) (0) rfl 8 (ρ) (range_all d2) Try.underlying65 rfl size8 ?_; simp only [Act.put, List.setIfInBounds_toArray, List.set_cons_zero, List.set_cons_succ])
    | ((with_reducible refine at_store ?_); refine store_arr rfl _ _ _ rfl (s) 0 rfl 8 (ρ) rfl (there_of_arr d1 0 8 (by omega)) size8 ?_; have HZ : Hid (Blk (World.setCells wy s 0 (arr 8 (ρ)).toList) s (arr 8 (ρ)) 65) := (arr_store (k := ρ) d1 0 8 (by omega) (fun i hi => by rw [Nat.zero_add]) (fun i hi h => by omega)); have hbb := (below_setCells (g := s) (Nat.le_refl _) (arr 8 (ρ)).toList 0 wy hd); clear d1 d2 hd; generalize World.setCells wy s 0 (arr 8 (ρ)).toList = wz at *))
  refine bodyPost_ret (results_cell_row rfl _ _ s 65 _ (0, 0) _ rfl HZ.out Try.underlying65 rfl (by rw [arr_size]; exact size8)) rfl ?_
  exact ⟨rfl, hbb⟩
end Go.Proofs.Ytkakiollhhmmaaa
