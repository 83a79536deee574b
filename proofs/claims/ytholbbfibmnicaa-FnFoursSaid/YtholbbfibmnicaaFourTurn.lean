/-
  The walk of (impl.fourSquare).rowsTurned with each of the two turns.
-/
import Derived.Test.YtholbbfibmnicaaFourSums
namespace Go.Proofs.Ytholbbfibmnicaa
open Go.RowKit
set_option linter.unusedVariables false
set_option maxRecDepth 20000

/-- The first k rows are turned. -/
def rowsTo (T : Nat → Int → Int → Int → Int → Int) (f : Nat → Int) (k i : Nat) : Int := if i < 4 * k then rowsF T f i else 0
theorem rowsTo_none (T : Nat → Int → Int → Int → Int → Int) (f : Nat → Int) : arr 16 (rowsTo T f 0) = arr 16 (fun _ => 0) := arr_congr fun i hi => by
  unfold rowsTo
  rw [if_neg (by omega)]
theorem rowsTo_full (T : Nat → Int → Int → Int → Int → Int) (f : Nat → Int) : arr 16 (rowsTo T f 4) = arr 16 (rowsF T f) := arr_congr fun i hi => by
  unfold rowsTo
  rw [if_pos (by omega)]

set_option maxHeartbeats 1600000 in
theorem sums_rows (f : Nat → Int) (w : World) (hf : In 100000000 16 f) :
    Calls Try.prog 56 #[.agg (arr 16 f), .func (Fn.func 39) #[] #[]] w fun e w' => e = .returned (.agg (arr 16 (rowsF sumR f))) ∧ Below w.heap.size w w' := by
  have HC : Hid (∀ w' (r : Nat → Int), In 100000000 4 r → Calls Try.prog 39 #[.agg (arr 4 r)] w' (fun e w'' => e = .returned (.agg (arr 4 (fun j => sumR j (r 0) (r 1) (r 2) (r 3)))) ∧ Below w'.heap.size w' w'')) := fun w' r hr => sums_any r w' hr
  go_enter Try.func56, Try.ntmps56
  go_wp2_with ((with_reducible refine at_load ?_); refine load_arr rfl _ _ rfl _ 0 rfl 16 f (range_all (((Blk.new w _ _).alloc _).alloc _)) Try.underlying42 rfl size42 ?_; simp only [Act.put, List.setIfInBounds_toArray, List.set_cons_zero, List.set_cons_succ])
  generalize hW : World.alloc (World.alloc (World.alloc w _) _) _ = W
  have B0 : Blk W w.heap.size (arr 16 f) 44 := by rw [← hW]; exact ((Blk.new w _ _).alloc _).alloc _
  have B1 : Blk W (w.heap.size + 1) (arr 16 (fun _ => 0)) 44 := by rw [← hW]; exact (Blk.new' _ _ (by simp)).alloc _
  have B2 : Blk W (w.heap.size + 1 + 1) (arr 16 (fun _ => 0)) 44 := by rw [← hW]; exact Blk.new' _ _ (by simp)
  have hb0 : Below w.heap.size w W := by rw [← hW]; exact (((Below.refl _ _).alloc (Nat.le_refl _) _).alloc (by simp) _).alloc (by simp; omega) _
  clear hW
  generalize hs : w.heap.size = s at *
  go_loopw [10] (fun i wr => ∃ k : Nat, k ≤ 4 ∧ i = .int .i64 (k : Int) ∧ Blk wr s (arr 16 f) 44 ∧ Blk wr (s + 1) (arr 16 (fun _ => 0)) 44 ∧ Blk wr (s + 1 + 1) (arr 16 (rowsTo sumR f k)) 44 ∧ Below s w wr) (fun i _ => 4 - (intOf i).toNat)
  case atStart => exact ⟨0, by omega, rfl, B0, B1, by rw [rowsTo_none]; exact B2, hb0⟩
  case round =>
    obtain ⟨k, hk, rfl, b0, b1, b2, hb⟩ := hrel
    clear B0 B1 B2 hb0
    by_cases hlt : k < 4
    · have l0 : (0 : Int) ≤ (k : Int) := by omega
      have l1 : (k : Int) < 4 := by omega
      have hidx : ∀ W, (Instr.index 42 (.agg (arr 16 f)) (.int .i64 (k : Int))).run Try.prog W = .ok (.agg (arr 4 (fun i => f (k * 4 + i)))) W := fun W => index_row Try.underlying42 size41 (agg41 W) f k hlt rfl
      have hst := run_storeCells_new (P := Try.prog) wr 41 #[.int .i64 0, .int .i64 0, .int .i64 0, .int .i64 0] (arr 4 (fun i => f (k * 4 + i))) (by rw [arr_size]; exact size41) (by rw [arr_size]; rfl) (arr_one _ _)
      go_wp2_with fail
      generalize hV : World.alloc wr _ = V
      have hbV : Below s w V := by rw [← hV]; exact hb.alloc (by rw [← hs]; exact hb.size) _
      have B0 : Blk V s (arr 16 f) 44 := by rw [← hV]; exact b0.alloc _
      have B1 : Blk V (s + 1) (arr 16 (fun _ => 0)) 44 := by rw [← hV]; exact b1.alloc _
      have B2 : Blk V (s + 1 + 1) (arr 16 (rowsTo sumR f k)) 44 := by rw [← hV]; exact b2.alloc _
      have B3 : Blk V wr.heap.size (arr 4 (fun i => f (k * 4 + i))) 41 := by rw [← hV]; exact Blk.new wr _ _
      clear hV hidx hst b0 b1 b2 hb
      generalize wr.heap.size = r at *
      obtain ⟨ρ, hρ⟩ : ∃ ρ : Nat → Int, ρ = fun i => f (k * 4 + i) := ⟨_, rfl⟩
      obtain ⟨τ, hτ⟩ : ∃ τ : Nat → Int, τ = fun j => sumR j (ρ 0) (ρ 1) (ρ 2) (ρ 3) := ⟨_, rfl⟩
      have HK : Hid (∀ w', Calls Try.prog 39 #[.agg (arr 4 ρ)] w' (fun e w'' => e = .returned (.agg (arr 4 τ)) ∧ Below w'.heap.size w' w'')) := fun w' => by
        rw [hτ]
        exact HC.out w' ρ (by rw [hρ]; exact fun i hi => hf _ (by omega))
      have HT : Hid (∀ W', Blk W' (s + 1 + 1) (arr 16 (rowsTo sumR f k)) 44 → Blk (W'.setCells (s + 1 + 1) (k * 4) (arr 4 τ).toList) (s + 1 + 1) (arr 16 (rowsTo sumR f (k + 1))) 44) := fun W' h => by
        refine arr_store h (k * 4) 4 (by omega) (fun i hi => ?_) (fun i hi ho => ?_)
        · unfold rowsTo
          rw [if_pos (by omega), Nat.mul_comm, rowsF_at _ _ _ _ hi, hτ, hρ, Nat.mul_comm k 4]
          rfl
        · unfold rowsTo
          by_cases c : i < 4 * k
          · rw [if_pos (by omega), if_pos c]
          · rw [if_neg (by omega), if_neg c]
      rw [← hρ] at B3
      clear HC
      rcases k with _ | p
      · clear hρ hτ
        go_quiet (fail)
        have b3 : Blk (V.drewN nq) r (arr 4 ρ) 41 := B3
        have hbq := below_drewN hbV nq
        have b0 : Blk (V.drewN nq) s (arr 16 f) 44 := B0
        have b1 : Blk (V.drewN nq) (s + 1) (arr 16 (fun _ => 0)) 44 := B1
        have b2 : Blk (V.drewN nq) (s + 1 + 1) (arr 16 (rowsTo sumR f 0)) 44 := B2
        clear B0 B1 B2 B3 hbV
        generalize V.drewN nq = U at *
        go_wp2_with (first
          | ((with_reducible refine at_load ?_); refine load_arr rfl _ _ rfl r 0 rfl 4 ρ (range_all b3) Try.underlying41 rfl size41 ?_; simp only [Act.put, List.setIfInBounds_toArray, List.set_cons_zero, List.set_cons_succ])
          | (go_at_call 39; refine (HK.out _).mono ?_; rintro e w2 ⟨rfl, hc2⟩)
          | ((with_reducible refine at_store ?_); refine store_arr rfl _ _ _ rfl (s + 1 + 1) (0 * 4) rfl 4 τ rfl (there_of_arr (b2.below hc2 b2.lt) (0 * 4) 4 (by omega)) size41 ?_))
        have hsz : s ≤ U.heap.size := by rw [← hs]; exact hbq.size
        have z2 := HT.out w2 (b2.below hc2 b2.lt)
        have z1 := Blk.others (show s + 1 ≠ s + 1 + 1 by omega) (arr 4 τ).toList (0 * 4) (b1.below hc2 b1.lt)
        have z0 := Blk.others (show s ≠ s + 1 + 1 by omega) (arr 4 τ).toList (0 * 4) (b0.below hc2 b0.lt)
        have zb := below_setCells (g := s + 1 + 1) (by omega) (arr 4 τ).toList (0 * 4) w2 (hbq.trans (hc2.mono hsz))
        refine ⟨⟨1, by omega, rfl, z0, z1, z2, zb⟩, ?_⟩
        simp [intOf]
      · have hpc : ((p + 1 : Nat) : Int) = (p : Int) + 1 := by omega
        have HS : Hid (∀ W' : World, Blk W' (s + 1 + 1) (arr 16 (rowsTo sumR f (p + 1))) 44 → (∀ i, i < 4 → ρ i = f (p * 4 + i)) → W'.rangeAt (s + 1 + 1) (p * 4) (arr 4 τ).toList) := fun W' h he => by
          have e := range_of_arr h (p * 4) 4 (by omega)
          rwa [arr_congr (g := τ) (fun i hi => by
            unfold rowsTo
            rw [if_pos (by omega), Nat.mul_comm p 4, rowsF_at _ _ _ _ hi, hτ]
            simp only [he 0 (by omega), he 1 (by omega), he 2 (by omega), he 3 (by omega)]
            rw [Nat.mul_comm p 4]
            rfl)] at e
        clear hρ hτ
        have d0 : V.cell? ⟨r, 0, none⟩ = some (.int .i64 (ρ 0)) := by rw [B3.cell, arr_get ρ (by omega)]
        have d1 : V.cell? ⟨r, 1, none⟩ = some (.int .i64 (ρ 1)) := by rw [B3.cell, arr_get ρ (by omega)]
        have d2 : V.cell? ⟨r, 2, none⟩ = some (.int .i64 (ρ 2)) := by rw [B3.cell, arr_get ρ (by omega)]
        have d3 : V.cell? ⟨r, 3, none⟩ = some (.int .i64 (ρ 3)) := by rw [B3.cell, arr_get ρ (by omega)]
        have g0 : V.cell? ⟨s, p * 4, none⟩ = some (.int .i64 (f (p * 4 + 0))) := by rw [B0.cell, arr_get f (by omega)]; rfl
        have g1 : V.cell? ⟨s, p * 4 + 1, none⟩ = some (.int .i64 (f (p * 4 + 1))) := by rw [B0.cell, arr_get f (by omega)]
        have g2 : V.cell? ⟨s, p * 4 + 2, none⟩ = some (.int .i64 (f (p * 4 + 2))) := by rw [B0.cell, arr_get f (by omega)]
        have g3 : V.cell? ⟨s, p * 4 + 3, none⟩ = some (.int .i64 (f (p * 4 + 3))) := by rw [B0.cell, arr_get f (by omega)]
        have heq : ∀ W : World, (Op.equalIn 10000 41 (.agg (arr 4 ρ)) (.agg (arr 4 (fun i => f (p * 4 + i))))).run Try.prog W = .ok ((List.range 4).all (fun i => ρ i == f (p * 4 + i))) W := fun W => eq_nums W 9998 41 3 4 .i64 Try.underlying41 size3 (agg3 W) Try.underlying3 _ _
        rw [show arr 4 ρ = #[.int .i64 (ρ 0), .int .i64 (ρ 1), .int .i64 (ρ 2), .int .i64 (ρ 3)] from rfl, show arr 4 (fun i => f (p * 4 + i)) = #[.int .i64 (f (p * 4 + 0)), .int .i64 (f (p * 4 + 1)), .int .i64 (f (p * 4 + 2)), .int .i64 (f (p * 4 + 3))] from rfl] at heq
        have q0 : (0 : Int) ≤ (p : Int) := by omega
        have q1 : (p : Int) < 3 := by omega
        have hpos : (0 : Int) < ((p + 1 : Nat) : Int) := by omega
        rw [hpc] at l0 l1 hpos
        cases hbb : (List.range 4).all (fun i => ρ i == f (p * 4 + i)) with
        | true =>
          have HE : Hid (∀ i, i < 4 → ρ i = f (p * 4 + i)) := all_eq_iff.1 hbb
          rw [hbb] at heq
          clear hbb
          generalize f (p * 4 + 0) = y0 at *
          generalize f (p * 4 + 1) = y1 at *
          generalize f (p * 4 + 2) = y2 at *
          generalize f (p * 4 + 3) = y3 at *
          generalize ρ 0 = x0 at *
          generalize ρ 1 = x1 at *
          generalize ρ 2 = x2 at *
          generalize ρ 3 = x3 at *
          rw [hpc]
          go_quiet (fail)
          have b0 : Blk (V.drewN nq) s (arr 16 f) 44 := B0
          have b1 : Blk (V.drewN nq) (s + 1) (arr 16 (fun _ => 0)) 44 := B1
          have b2 : Blk (V.drewN nq) (s + 1 + 1) (arr 16 (rowsTo sumR f (p + 1))) 44 := B2
          have hbq := below_drewN hbV nq
          clear B0 B1 B2 B3 hbV d0 d1 d2 d3 g0 g1 g2 g3 heq
          generalize V.drewN nq = U at *
          have rg := HS.out U b2 HE.out
          have th := there_of_arr b2 ((p + 1) * 4) 4 (by omega)
          go_wp2_with (first
            | ((with_reducible refine at_load ?_); refine load_arr rfl _ _ rfl (s + 1 + 1) (p * 4) rfl 4 τ rg Try.underlying41 rfl size41 ?_; simp only [Act.put, List.setIfInBounds_toArray, List.set_cons_zero, List.set_cons_succ])
            | ((with_reducible refine at_store ?_); refine store_arr rfl _ _ _ rfl (s + 1 + 1) ((p + 1) * 4) rfl 4 τ rfl th size41 ?_))
          have z2 := HT.out U b2
          have z1 := Blk.others (show s + 1 ≠ s + 1 + 1 by omega) (arr 4 τ).toList ((p + 1) * 4) b1
          have z0 := Blk.others (show s ≠ s + 1 + 1 by omega) (arr 4 τ).toList ((p + 1) * 4) b0
          have zb := below_setCells (g := s + 1 + 1) (by omega) (arr 4 τ).toList ((p + 1) * 4) U hbq
          refine ⟨⟨p + 1 + 1, by omega, by go_num, z0, z1, z2, zb⟩, ?_⟩
          simp [intOf]; omega
        | false =>
          rw [hbb] at heq
          clear hbb HS
          generalize f (p * 4 + 0) = y0 at *
          generalize f (p * 4 + 1) = y1 at *
          generalize f (p * 4 + 2) = y2 at *
          generalize f (p * 4 + 3) = y3 at *
          generalize ρ 0 = x0 at *
          generalize ρ 1 = x1 at *
          generalize ρ 2 = x2 at *
          generalize ρ 3 = x3 at *
          rw [hpc]
          go_quiet (fail)
          have b3 : Blk (V.drewN nq) r (arr 4 ρ) 41 := B3
          have hbq := below_drewN hbV nq
          have b0 : Blk (V.drewN nq) s (arr 16 f) 44 := B0
          have b1 : Blk (V.drewN nq) (s + 1) (arr 16 (fun _ => 0)) 44 := B1
          have b2 : Blk (V.drewN nq) (s + 1 + 1) (arr 16 (rowsTo sumR f (p + 1))) 44 := B2
          clear B0 B1 B2 B3 hbV d0 d1 d2 d3 g0 g1 g2 g3 heq
          generalize V.drewN nq = U at *
          go_wp2_with (first
            | ((with_reducible refine at_load ?_); refine load_arr rfl _ _ rfl r 0 rfl 4 ρ (range_all b3) Try.underlying41 rfl size41 ?_; simp only [Act.put, List.setIfInBounds_toArray, List.set_cons_zero, List.set_cons_succ])
            | (go_at_call 39; refine (HK.out _).mono ?_; rintro e w2 ⟨rfl, hc2⟩)
            | ((with_reducible refine at_store ?_); refine store_arr rfl _ _ _ rfl (s + 1 + 1) ((p + 1) * 4) rfl 4 τ rfl (there_of_arr (b2.below hc2 b2.lt) ((p + 1) * 4) 4 (by omega)) size41 ?_))
          have hsz : s ≤ U.heap.size := by rw [← hs]; exact hbq.size
          have z2 := HT.out w2 (b2.below hc2 b2.lt)
          have z1 := Blk.others (show s + 1 ≠ s + 1 + 1 by omega) (arr 4 τ).toList ((p + 1) * 4) (b1.below hc2 b1.lt)
          have z0 := Blk.others (show s ≠ s + 1 + 1 by omega) (arr 4 τ).toList ((p + 1) * 4) (b0.below hc2 b0.lt)
          have zb := below_setCells (g := s + 1 + 1) (by omega) (arr 4 τ).toList ((p + 1) * 4) w2 (hbq.trans (hc2.mono hsz))
          refine ⟨⟨p + 1 + 1, by omega, by go_num, z0, z1, z2, zb⟩, ?_⟩
          simp [intOf]; omega
    · obtain rfl : k = 4 := by omega
      rw [rowsTo_full] at b2
      obtain ⟨ρ, hρ⟩ : ∃ ρ, ρ = rowsF sumR f := ⟨_, rfl⟩
      have HR : Hid (rowsF sumR f = ρ) := hρ.symm
      rw [← hρ] at b2
      clear hρ HC
      have HZ : Hid (Blk (wr.setCells (s + 1) 0 (arr 16 ρ).toList) (s + 1) (arr 16 ρ) 44) := arr_store (k := ρ) b1 0 16 (by omega) (fun i hi => by rw [Nat.zero_add]) (fun i hi h => by omega)
      have hbb := below_setCells (g := s + 1) (by omega) (arr 16 ρ).toList 0 wr hb
      have rg := range_all b2
      have th := there_of_arr b1 0 16 (by omega)
      clear b0 b1 b2 hb hlt hk
      go_wp2_with (first
        | ((with_reducible refine at_load ?_); refine load_arr rfl _ _ rfl (s + 1 + 1) 0 rfl 16 ρ rg Try.underlying44 rfl size44 ?_; simp only [Act.put, List.setIfInBounds_toArray, List.set_cons_zero, List.set_cons_succ])
        | ((with_reducible refine at_store ?_); refine store_arr rfl _ _ _ rfl (s + 1) 0 rfl 16 ρ rfl th size44 ?_; clear th rg; generalize World.setCells wr (s + 1) 0 (arr 16 ρ).toList = wz at *))
      refine bodyPost_ret (results_cell_row rfl _ _ (s + 1) 44 _ (0, 0) _ rfl HZ.out Try.underlying44 rfl (by rw [arr_size]; exact size44)) rfl ?_
      exact ⟨by rw [HR.out], by rw [hs]; exact hbb⟩
set_option maxHeartbeats 1600000 in
theorem baks_rows (f : Nat → Int) (w : World) (hf : In 100000000 16 f) :
    Calls Try.prog 56 #[.agg (arr 16 f), .func (Fn.func 41) #[] #[]] w fun e w' => e = .returned (.agg (arr 16 (rowsF bakR f))) ∧ Below w.heap.size w w' := by
  have HC : Hid (∀ w' (r : Nat → Int), In 100000000 4 r → Calls Try.prog 41 #[.agg (arr 4 r)] w' (fun e w'' => e = .returned (.agg (arr 4 (fun j => bakR j (r 0) (r 1) (r 2) (r 3)))) ∧ Below w'.heap.size w' w'')) := fun w' r hr => baks_any r w' hr
  go_enter Try.func56, Try.ntmps56
  go_wp2_with ((with_reducible refine at_load ?_); refine load_arr rfl _ _ rfl _ 0 rfl 16 f (range_all (((Blk.new w _ _).alloc _).alloc _)) Try.underlying42 rfl size42 ?_; simp only [Act.put, List.setIfInBounds_toArray, List.set_cons_zero, List.set_cons_succ])
  generalize hW : World.alloc (World.alloc (World.alloc w _) _) _ = W
  have B0 : Blk W w.heap.size (arr 16 f) 44 := by rw [← hW]; exact ((Blk.new w _ _).alloc _).alloc _
  have B1 : Blk W (w.heap.size + 1) (arr 16 (fun _ => 0)) 44 := by rw [← hW]; exact (Blk.new' _ _ (by simp)).alloc _
  have B2 : Blk W (w.heap.size + 1 + 1) (arr 16 (fun _ => 0)) 44 := by rw [← hW]; exact Blk.new' _ _ (by simp)
  have hb0 : Below w.heap.size w W := by rw [← hW]; exact (((Below.refl _ _).alloc (Nat.le_refl _) _).alloc (by simp) _).alloc (by simp; omega) _
  clear hW
  generalize hs : w.heap.size = s at *
  go_loopw [10] (fun i wr => ∃ k : Nat, k ≤ 4 ∧ i = .int .i64 (k : Int) ∧ Blk wr s (arr 16 f) 44 ∧ Blk wr (s + 1) (arr 16 (fun _ => 0)) 44 ∧ Blk wr (s + 1 + 1) (arr 16 (rowsTo bakR f k)) 44 ∧ Below s w wr) (fun i _ => 4 - (intOf i).toNat)
  case atStart => exact ⟨0, by omega, rfl, B0, B1, by rw [rowsTo_none]; exact B2, hb0⟩
  case round =>
    obtain ⟨k, hk, rfl, b0, b1, b2, hb⟩ := hrel
    clear B0 B1 B2 hb0
    by_cases hlt : k < 4
    · have l0 : (0 : Int) ≤ (k : Int) := by omega
      have l1 : (k : Int) < 4 := by omega
      have hidx : ∀ W, (Instr.index 42 (.agg (arr 16 f)) (.int .i64 (k : Int))).run Try.prog W = .ok (.agg (arr 4 (fun i => f (k * 4 + i)))) W := fun W => index_row Try.underlying42 size41 (agg41 W) f k hlt rfl
      have hst := run_storeCells_new (P := Try.prog) wr 41 #[.int .i64 0, .int .i64 0, .int .i64 0, .int .i64 0] (arr 4 (fun i => f (k * 4 + i))) (by rw [arr_size]; exact size41) (by rw [arr_size]; rfl) (arr_one _ _)
      go_wp2_with fail
      generalize hV : World.alloc wr _ = V
      have hbV : Below s w V := by rw [← hV]; exact hb.alloc (by rw [← hs]; exact hb.size) _
      have B0 : Blk V s (arr 16 f) 44 := by rw [← hV]; exact b0.alloc _
      have B1 : Blk V (s + 1) (arr 16 (fun _ => 0)) 44 := by rw [← hV]; exact b1.alloc _
      have B2 : Blk V (s + 1 + 1) (arr 16 (rowsTo bakR f k)) 44 := by rw [← hV]; exact b2.alloc _
      have B3 : Blk V wr.heap.size (arr 4 (fun i => f (k * 4 + i))) 41 := by rw [← hV]; exact Blk.new wr _ _
      clear hV hidx hst b0 b1 b2 hb
      generalize wr.heap.size = r at *
      obtain ⟨ρ, hρ⟩ : ∃ ρ : Nat → Int, ρ = fun i => f (k * 4 + i) := ⟨_, rfl⟩
      obtain ⟨τ, hτ⟩ : ∃ τ : Nat → Int, τ = fun j => bakR j (ρ 0) (ρ 1) (ρ 2) (ρ 3) := ⟨_, rfl⟩
      have HK : Hid (∀ w', Calls Try.prog 41 #[.agg (arr 4 ρ)] w' (fun e w'' => e = .returned (.agg (arr 4 τ)) ∧ Below w'.heap.size w' w'')) := fun w' => by
        rw [hτ]
        exact HC.out w' ρ (by rw [hρ]; exact fun i hi => hf _ (by omega))
      have HT : Hid (∀ W', Blk W' (s + 1 + 1) (arr 16 (rowsTo bakR f k)) 44 → Blk (W'.setCells (s + 1 + 1) (k * 4) (arr 4 τ).toList) (s + 1 + 1) (arr 16 (rowsTo bakR f (k + 1))) 44) := fun W' h => by
        refine arr_store h (k * 4) 4 (by omega) (fun i hi => ?_) (fun i hi ho => ?_)
        · unfold rowsTo
          rw [if_pos (by omega), Nat.mul_comm, rowsF_at _ _ _ _ hi, hτ, hρ, Nat.mul_comm k 4]
          rfl
        · unfold rowsTo
          by_cases c : i < 4 * k
          · rw [if_pos (by omega), if_pos c]
          · rw [if_neg (by omega), if_neg c]
      rw [← hρ] at B3
      clear HC
      rcases k with _ | p
      · clear hρ hτ
        go_quiet (fail)
        have b3 : Blk (V.drewN nq) r (arr 4 ρ) 41 := B3
        have hbq := below_drewN hbV nq
        have b0 : Blk (V.drewN nq) s (arr 16 f) 44 := B0
        have b1 : Blk (V.drewN nq) (s + 1) (arr 16 (fun _ => 0)) 44 := B1
        have b2 : Blk (V.drewN nq) (s + 1 + 1) (arr 16 (rowsTo bakR f 0)) 44 := B2
        clear B0 B1 B2 B3 hbV
        generalize V.drewN nq = U at *
        go_wp2_with (first
          | ((with_reducible refine at_load ?_); refine load_arr rfl _ _ rfl r 0 rfl 4 ρ (range_all b3) Try.underlying41 rfl size41 ?_; simp only [Act.put, List.setIfInBounds_toArray, List.set_cons_zero, List.set_cons_succ])
          | (go_at_call 41; refine (HK.out _).mono ?_; rintro e w2 ⟨rfl, hc2⟩)
          | ((with_reducible refine at_store ?_); refine store_arr rfl _ _ _ rfl (s + 1 + 1) (0 * 4) rfl 4 τ rfl (there_of_arr (b2.below hc2 b2.lt) (0 * 4) 4 (by omega)) size41 ?_))
        have hsz : s ≤ U.heap.size := by rw [← hs]; exact hbq.size
        have z2 := HT.out w2 (b2.below hc2 b2.lt)
        have z1 := Blk.others (show s + 1 ≠ s + 1 + 1 by omega) (arr 4 τ).toList (0 * 4) (b1.below hc2 b1.lt)
        have z0 := Blk.others (show s ≠ s + 1 + 1 by omega) (arr 4 τ).toList (0 * 4) (b0.below hc2 b0.lt)
        have zb := below_setCells (g := s + 1 + 1) (by omega) (arr 4 τ).toList (0 * 4) w2 (hbq.trans (hc2.mono hsz))
        refine ⟨⟨1, by omega, rfl, z0, z1, z2, zb⟩, ?_⟩
        simp [intOf]
      · have hpc : ((p + 1 : Nat) : Int) = (p : Int) + 1 := by omega
        have HS : Hid (∀ W' : World, Blk W' (s + 1 + 1) (arr 16 (rowsTo bakR f (p + 1))) 44 → (∀ i, i < 4 → ρ i = f (p * 4 + i)) → W'.rangeAt (s + 1 + 1) (p * 4) (arr 4 τ).toList) := fun W' h he => by
          have e := range_of_arr h (p * 4) 4 (by omega)
          rwa [arr_congr (g := τ) (fun i hi => by
            unfold rowsTo
            rw [if_pos (by omega), Nat.mul_comm p 4, rowsF_at _ _ _ _ hi, hτ]
            simp only [he 0 (by omega), he 1 (by omega), he 2 (by omega), he 3 (by omega)]
            rw [Nat.mul_comm p 4]
            rfl)] at e
        clear hρ hτ
        have d0 : V.cell? ⟨r, 0, none⟩ = some (.int .i64 (ρ 0)) := by rw [B3.cell, arr_get ρ (by omega)]
        have d1 : V.cell? ⟨r, 1, none⟩ = some (.int .i64 (ρ 1)) := by rw [B3.cell, arr_get ρ (by omega)]
        have d2 : V.cell? ⟨r, 2, none⟩ = some (.int .i64 (ρ 2)) := by rw [B3.cell, arr_get ρ (by omega)]
        have d3 : V.cell? ⟨r, 3, none⟩ = some (.int .i64 (ρ 3)) := by rw [B3.cell, arr_get ρ (by omega)]
        have g0 : V.cell? ⟨s, p * 4, none⟩ = some (.int .i64 (f (p * 4 + 0))) := by rw [B0.cell, arr_get f (by omega)]; rfl
        have g1 : V.cell? ⟨s, p * 4 + 1, none⟩ = some (.int .i64 (f (p * 4 + 1))) := by rw [B0.cell, arr_get f (by omega)]
        have g2 : V.cell? ⟨s, p * 4 + 2, none⟩ = some (.int .i64 (f (p * 4 + 2))) := by rw [B0.cell, arr_get f (by omega)]
        have g3 : V.cell? ⟨s, p * 4 + 3, none⟩ = some (.int .i64 (f (p * 4 + 3))) := by rw [B0.cell, arr_get f (by omega)]
        have heq : ∀ W : World, (Op.equalIn 10000 41 (.agg (arr 4 ρ)) (.agg (arr 4 (fun i => f (p * 4 + i))))).run Try.prog W = .ok ((List.range 4).all (fun i => ρ i == f (p * 4 + i))) W := fun W => eq_nums W 9998 41 3 4 .i64 Try.underlying41 size3 (agg3 W) Try.underlying3 _ _
        rw [show arr 4 ρ = #[.int .i64 (ρ 0), .int .i64 (ρ 1), .int .i64 (ρ 2), .int .i64 (ρ 3)] from rfl, show arr 4 (fun i => f (p * 4 + i)) = #[.int .i64 (f (p * 4 + 0)), .int .i64 (f (p * 4 + 1)), .int .i64 (f (p * 4 + 2)), .int .i64 (f (p * 4 + 3))] from rfl] at heq
        have q0 : (0 : Int) ≤ (p : Int) := by omega
        have q1 : (p : Int) < 3 := by omega
        have hpos : (0 : Int) < ((p + 1 : Nat) : Int) := by omega
        rw [hpc] at l0 l1 hpos
        cases hbb : (List.range 4).all (fun i => ρ i == f (p * 4 + i)) with
        | true =>
          have HE : Hid (∀ i, i < 4 → ρ i = f (p * 4 + i)) := all_eq_iff.1 hbb
          rw [hbb] at heq
          clear hbb
          generalize f (p * 4 + 0) = y0 at *
          generalize f (p * 4 + 1) = y1 at *
          generalize f (p * 4 + 2) = y2 at *
          generalize f (p * 4 + 3) = y3 at *
          generalize ρ 0 = x0 at *
          generalize ρ 1 = x1 at *
          generalize ρ 2 = x2 at *
          generalize ρ 3 = x3 at *
          rw [hpc]
          go_quiet (fail)
          have b0 : Blk (V.drewN nq) s (arr 16 f) 44 := B0
          have b1 : Blk (V.drewN nq) (s + 1) (arr 16 (fun _ => 0)) 44 := B1
          have b2 : Blk (V.drewN nq) (s + 1 + 1) (arr 16 (rowsTo bakR f (p + 1))) 44 := B2
          have hbq := below_drewN hbV nq
          clear B0 B1 B2 B3 hbV d0 d1 d2 d3 g0 g1 g2 g3 heq
          generalize V.drewN nq = U at *
          have rg := HS.out U b2 HE.out
          have th := there_of_arr b2 ((p + 1) * 4) 4 (by omega)
          go_wp2_with (first
            | ((with_reducible refine at_load ?_); refine load_arr rfl _ _ rfl (s + 1 + 1) (p * 4) rfl 4 τ rg Try.underlying41 rfl size41 ?_; simp only [Act.put, List.setIfInBounds_toArray, List.set_cons_zero, List.set_cons_succ])
            | ((with_reducible refine at_store ?_); refine store_arr rfl _ _ _ rfl (s + 1 + 1) ((p + 1) * 4) rfl 4 τ rfl th size41 ?_))
          have z2 := HT.out U b2
          have z1 := Blk.others (show s + 1 ≠ s + 1 + 1 by omega) (arr 4 τ).toList ((p + 1) * 4) b1
          have z0 := Blk.others (show s ≠ s + 1 + 1 by omega) (arr 4 τ).toList ((p + 1) * 4) b0
          have zb := below_setCells (g := s + 1 + 1) (by omega) (arr 4 τ).toList ((p + 1) * 4) U hbq
          refine ⟨⟨p + 1 + 1, by omega, by go_num, z0, z1, z2, zb⟩, ?_⟩
          simp [intOf]; omega
        | false =>
          rw [hbb] at heq
          clear hbb HS
          generalize f (p * 4 + 0) = y0 at *
          generalize f (p * 4 + 1) = y1 at *
          generalize f (p * 4 + 2) = y2 at *
          generalize f (p * 4 + 3) = y3 at *
          generalize ρ 0 = x0 at *
          generalize ρ 1 = x1 at *
          generalize ρ 2 = x2 at *
          generalize ρ 3 = x3 at *
          rw [hpc]
          go_quiet (fail)
          have b3 : Blk (V.drewN nq) r (arr 4 ρ) 41 := B3
          have hbq := below_drewN hbV nq
          have b0 : Blk (V.drewN nq) s (arr 16 f) 44 := B0
          have b1 : Blk (V.drewN nq) (s + 1) (arr 16 (fun _ => 0)) 44 := B1
          have b2 : Blk (V.drewN nq) (s + 1 + 1) (arr 16 (rowsTo bakR f (p + 1))) 44 := B2
          clear B0 B1 B2 B3 hbV d0 d1 d2 d3 g0 g1 g2 g3 heq
          generalize V.drewN nq = U at *
          go_wp2_with (first
            | ((with_reducible refine at_load ?_); refine load_arr rfl _ _ rfl r 0 rfl 4 ρ (range_all b3) Try.underlying41 rfl size41 ?_; simp only [Act.put, List.setIfInBounds_toArray, List.set_cons_zero, List.set_cons_succ])
            | (go_at_call 41; refine (HK.out _).mono ?_; rintro e w2 ⟨rfl, hc2⟩)
            | ((with_reducible refine at_store ?_); refine store_arr rfl _ _ _ rfl (s + 1 + 1) ((p + 1) * 4) rfl 4 τ rfl (there_of_arr (b2.below hc2 b2.lt) ((p + 1) * 4) 4 (by omega)) size41 ?_))
          have hsz : s ≤ U.heap.size := by rw [← hs]; exact hbq.size
          have z2 := HT.out w2 (b2.below hc2 b2.lt)
          have z1 := Blk.others (show s + 1 ≠ s + 1 + 1 by omega) (arr 4 τ).toList ((p + 1) * 4) (b1.below hc2 b1.lt)
          have z0 := Blk.others (show s ≠ s + 1 + 1 by omega) (arr 4 τ).toList ((p + 1) * 4) (b0.below hc2 b0.lt)
          have zb := below_setCells (g := s + 1 + 1) (by omega) (arr 4 τ).toList ((p + 1) * 4) w2 (hbq.trans (hc2.mono hsz))
          refine ⟨⟨p + 1 + 1, by omega, by go_num, z0, z1, z2, zb⟩, ?_⟩
          simp [intOf]; omega
    · obtain rfl : k = 4 := by omega
      rw [rowsTo_full] at b2
      obtain ⟨ρ, hρ⟩ : ∃ ρ, ρ = rowsF bakR f := ⟨_, rfl⟩
      have HR : Hid (rowsF bakR f = ρ) := hρ.symm
      rw [← hρ] at b2
      clear hρ HC
      have HZ : Hid (Blk (wr.setCells (s + 1) 0 (arr 16 ρ).toList) (s + 1) (arr 16 ρ) 44) := arr_store (k := ρ) b1 0 16 (by omega) (fun i hi => by rw [Nat.zero_add]) (fun i hi h => by omega)
      have hbb := below_setCells (g := s + 1) (by omega) (arr 16 ρ).toList 0 wr hb
      have rg := range_all b2
      have th := there_of_arr b1 0 16 (by omega)
      clear b0 b1 b2 hb hlt hk
      go_wp2_with (first
        | ((with_reducible refine at_load ?_); refine load_arr rfl _ _ rfl (s + 1 + 1) 0 rfl 16 ρ rg Try.underlying44 rfl size44 ?_; simp only [Act.put, List.setIfInBounds_toArray, List.set_cons_zero, List.set_cons_succ])
        | ((with_reducible refine at_store ?_); refine store_arr rfl _ _ _ rfl (s + 1) 0 rfl 16 ρ rfl th size44 ?_; clear th rg; generalize World.setCells wr (s + 1) 0 (arr 16 ρ).toList = wz at *))
      refine bodyPost_ret (results_cell_row rfl _ _ (s + 1) 44 _ (0, 0) _ rfl HZ.out Try.underlying44 rfl (by rw [arr_size]; exact size44)) rfl ?_
      exact ⟨by rw [HR.out], by rw [hs]; exact hbb⟩
end Go.Proofs.Ytholbbfibmnicaa
