/-
  The walks of (impl.fourRow).sums and sumsBack, impl.halfDown and impl.turnedDown.
-/
import Derived.Test.YtholbbfibmnicaaFourKit
import Derived.BigRegion
import Derived.BigQuiet
namespace Go.Proofs.Ytholbbfibmnicaa
open Go.RowKit
set_option linter.unusedVariables false
set_option maxRecDepth 20000

set_option maxHeartbeats 400000 in
theorem half_any (n : Int) (w : World) : Calls Try.prog 58 #[.int .i64 n] w fun e w' => e = .returned (.int .i64 (n / 2)) ∧ w' = w := by
  go_enter Try.func58, Try.ntmps58
  go_wp2
  go_ret
  exact ⟨by simp, rfl⟩
set_option maxHeartbeats 400000 in
theorem down_any (n : Int) (w : World) (h0 : -10000000000 ≤ n) (h1 : n ≤ 10000000000) : Calls Try.prog 42 #[.int .i64 n] w fun e w' => e = .returned (.int .i64 ((n + 32) / 64)) ∧ w' = w := by
  go_enter Try.func42, Try.ntmps42
  go_wp2
  go_ret
  exact ⟨by simp, rfl⟩
set_option maxHeartbeats 800000 in
theorem sums_any (r : Nat → Int) (w : World) (hr : In 100000000 4 r) :
    Calls Try.prog 39 #[.agg (arr 4 r)] w fun e w' => e = .returned (.agg (arr 4 (fun j => sumR j (r 0) (r 1) (r 2) (r 3)))) ∧ Below w.heap.size w w' := by
  obtain ⟨a0, a1⟩ := hr 0 (by omega)
  obtain ⟨b0, b1⟩ := hr 1 (by omega)
  obtain ⟨c0, c1⟩ := hr 2 (by omega)
  obtain ⟨d0, d1⟩ := hr 3 (by omega)
  go_enter Try.func39, Try.ntmps39
  go_wp2_with fail
  generalize hW : World.alloc (World.alloc w _) _ = W
  have B0 : Blk W w.heap.size (arr 4 r) 41 := by rw [← hW]; exact (Blk.new w _ _).alloc _
  have B1 : Blk W (w.heap.size + 1) (arr 4 (fun _ => 0)) 41 := by rw [← hW]; exact Blk.new' _ _ (by simp)
  have hb0 : Below w.heap.size w W := by rw [← hW]; exact ((Below.refl _ _).alloc (Nat.le_refl _) _).alloc (by simp) _
  clear hW
  generalize hs : w.heap.size = s at *
  have e0 : W.cell? ⟨s, 0, none⟩ = some (.int .i64 (r 0)) := by rw [B0.cell, arr_get r (by omega)]
  have e1 : W.cell? ⟨s, 1, none⟩ = some (.int .i64 (r 1)) := by rw [B0.cell, arr_get r (by omega)]
  have e2 : W.cell? ⟨s, 2, none⟩ = some (.int .i64 (r 2)) := by rw [B0.cell, arr_get r (by omega)]
  have e3 : W.cell? ⟨s, 3, none⟩ = some (.int .i64 (r 3)) := by rw [B0.cell, arr_get r (by omega)]
  clear B0
  have th := there_of_arr B1 0 4 (by omega)
  obtain ⟨a, ha⟩ : ∃ a, r 0 = a := ⟨_, rfl⟩
  have HA : Hid (r 0 = a) := ha
  rw [ha] at a0 a1 e0
  clear ha
  obtain ⟨b, hb⟩ : ∃ b, r 1 = b := ⟨_, rfl⟩
  have HB : Hid (r 1 = b) := hb
  rw [hb] at b0 b1 e1
  clear hb
  obtain ⟨c, hc⟩ : ∃ c, r 2 = c := ⟨_, rfl⟩
  have HC : Hid (r 2 = c) := hc
  rw [hc] at c0 c1 e2
  clear hc
  obtain ⟨d, hd⟩ : ∃ d, r 3 = d := ⟨_, rfl⟩
  have HD : Hid (r 3 = d) := hd
  rw [hd] at d0 d1 e3
  clear hd
  have HZ : ∀ W', Blk W' (s + 1) (arr 4 (fun _ => 0)) 41 → Blk (W'.setCells (s + 1) 0 (arr 4 (fun j => sumR j a b c d)).toList) (s + 1) (arr 4 (fun j => sumR j a b c d)) 41 := fun W' h => arr_store h 0 4 (by omega) (fun i hi => by rw [Nat.zero_add]) (fun i hi h => by omega)
  have HH : Hid (∀ W', Blk W' (s + 1) (arr 4 (fun _ => 0)) 41 → Blk (W'.setCells (s + 1) 0 (arr 4 (fun j => sumR j a b c d)).toList) (s + 1) (arr 4 (fun j => sumR j a b c d)) 41) := HZ
  clear HZ
  go_quiet (fail)
  have b1 : Blk (W.drewN nq) (s + 1) (arr 4 (fun _ => 0)) 41 := B1
  have hb1 := below_setCells (g := s + 1) (by omega) (arr 4 (fun j => sumR j a b c d)).toList 0 _ (below_drewN hb0 nq)
  have hz : Hid (Blk ((W.drewN nq).setCells (s + 1) 0 (arr 4 (fun j => sumR j a b c d)).toList) (s + 1) (arr 4 (fun j => sumR j a b c d)) 41) := HH.out _ b1
  have t1 : (W.drewN nq).there (s + 1) 0 4 := there_of_arr b1 0 4 (by omega)
  clear HH B1 hb0 th b1 e0 e1 e2 e3
  go_wp2_with ((with_reducible refine at_store ?_); refine store_arr rfl _ _ _ rfl (s + 1) 0 rfl 4 (fun j => sumR j a b c d) rfl t1 size41 ?_; clear t1; generalize World.setCells (W.drewN nq) (s + 1) 0 (arr 4 (fun j => sumR j a b c d)).toList = wz at *)
  refine bodyPost_ret (results_cell_row rfl _ _ (s + 1) 41 _ (0, 0) _ rfl hz.out Try.underlying41 rfl (by rw [arr_size]; exact size41)) rfl ?_
  exact ⟨by rw [HA.out, HB.out, HC.out, HD.out], by rw [hs]; exact hb1⟩
set_option maxHeartbeats 800000 in
theorem baks_any (r : Nat → Int) (w : World) (hr : In 100000000 4 r) :
    Calls Try.prog 41 #[.agg (arr 4 r)] w fun e w' => e = .returned (.agg (arr 4 (fun j => bakR j (r 0) (r 1) (r 2) (r 3)))) ∧ Below w.heap.size w w' := by
  obtain ⟨a0, a1⟩ := hr 0 (by omega)
  obtain ⟨b0, b1⟩ := hr 1 (by omega)
  obtain ⟨c0, c1⟩ := hr 2 (by omega)
  obtain ⟨d0, d1⟩ := hr 3 (by omega)
  go_enter Try.func41, Try.ntmps41
  go_wp2_with fail
  generalize hW : World.alloc (World.alloc w _) _ = W
  have B0 : Blk W w.heap.size (arr 4 r) 41 := by rw [← hW]; exact (Blk.new w _ _).alloc _
  have B1 : Blk W (w.heap.size + 1) (arr 4 (fun _ => 0)) 41 := by rw [← hW]; exact Blk.new' _ _ (by simp)
  have hb0 : Below w.heap.size w W := by rw [← hW]; exact ((Below.refl _ _).alloc (Nat.le_refl _) _).alloc (by simp) _
  clear hW
  generalize hs : w.heap.size = s at *
  have e0 : W.cell? ⟨s, 0, none⟩ = some (.int .i64 (r 0)) := by rw [B0.cell, arr_get r (by omega)]
  have e1 : W.cell? ⟨s, 1, none⟩ = some (.int .i64 (r 1)) := by rw [B0.cell, arr_get r (by omega)]
  have e2 : W.cell? ⟨s, 2, none⟩ = some (.int .i64 (r 2)) := by rw [B0.cell, arr_get r (by omega)]
  have e3 : W.cell? ⟨s, 3, none⟩ = some (.int .i64 (r 3)) := by rw [B0.cell, arr_get r (by omega)]
  clear B0
  have th := there_of_arr B1 0 4 (by omega)
  obtain ⟨a, ha⟩ : ∃ a, r 0 = a := ⟨_, rfl⟩
  have HA : Hid (r 0 = a) := ha
  rw [ha] at a0 a1 e0
  clear ha
  obtain ⟨b, hb⟩ : ∃ b, r 1 = b := ⟨_, rfl⟩
  have HB : Hid (r 1 = b) := hb
  rw [hb] at b0 b1 e1
  clear hb
  obtain ⟨c, hc⟩ : ∃ c, r 2 = c := ⟨_, rfl⟩
  have HC : Hid (r 2 = c) := hc
  rw [hc] at c0 c1 e2
  clear hc
  obtain ⟨d, hd⟩ : ∃ d, r 3 = d := ⟨_, rfl⟩
  have HD : Hid (r 3 = d) := hd
  rw [hd] at d0 d1 e3
  clear hd
  have HZ : ∀ W', Blk W' (s + 1) (arr 4 (fun _ => 0)) 41 → Blk (W'.setCells (s + 1) 0 (arr 4 (fun j => bakR j a b c d)).toList) (s + 1) (arr 4 (fun j => bakR j a b c d)) 41 := fun W' h => arr_store h 0 4 (by omega) (fun i hi => by rw [Nat.zero_add]) (fun i hi h => by omega)
  have HH : Hid (∀ W', Blk W' (s + 1) (arr 4 (fun _ => 0)) 41 → Blk (W'.setCells (s + 1) 0 (arr 4 (fun j => bakR j a b c d)).toList) (s + 1) (arr 4 (fun j => bakR j a b c d)) 41) := HZ
  clear HZ
  go_quiet (fail)
  have b1 : Blk (W.drewN nq) (s + 1) (arr 4 (fun _ => 0)) 41 := B1
  have hb1 := below_setCells (g := s + 1) (by omega) (arr 4 (fun j => bakR j a b c d)).toList 0 _ (below_drewN hb0 nq)
  have hz : Hid (Blk ((W.drewN nq).setCells (s + 1) 0 (arr 4 (fun j => bakR j a b c d)).toList) (s + 1) (arr 4 (fun j => bakR j a b c d)) 41) := HH.out _ b1
  have t1 : (W.drewN nq).there (s + 1) 0 4 := there_of_arr b1 0 4 (by omega)
  clear HH B1 hb0 th b1 e0 e1 e2 e3
  go_wp2_with (first | (go_at_call 58; refine (half_any _ _).mono ?_; rintro e w1 ⟨rfl, hw⟩; subst w1) | ((with_reducible refine at_store ?_); refine store_arr rfl _ _ _ rfl (s + 1) 0 rfl 4 (fun j => bakR j a b c d) rfl t1 size41 ?_; clear t1; generalize World.setCells (W.drewN nq) (s + 1) 0 (arr 4 (fun j => bakR j a b c d)).toList = wz at *))
  refine bodyPost_ret (results_cell_row rfl _ _ (s + 1) 41 _ (0, 0) _ rfl hz.out Try.underlying41 rfl (by rw [arr_size]; exact size41)) rfl ?_
  exact ⟨by rw [HA.out, HB.out, HC.out, HD.out], by rw [hs]; exact hb1⟩
end Go.Proofs.Ytholbbfibmnicaa
