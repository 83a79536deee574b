/-
  The walk of (impl.eightSquare).crossed: the sums of each row, laid as a column.
-/
import Derived.Test.YtlejfkjanllgbaaDoorEightKit
import Derived.Deep.RegionHeld3
namespace Go.Proofs.YtlejfkjanllgbaaDoor
open Go.RowKit
set_option linter.unusedVariables false
set_option maxRecDepth 20000

/-- The first r columns are laid, and c of the next one. -/
def crossTo (f : Nat → Int) (r c i : Nat) : Int := if i % 8 < r ∨ (i % 8 = r ∧ i / 8 < c) then crossF f i else 0
theorem crossTo_none (f : Nat → Int) : arr 64 (crossTo f 0 0) = arr 64 (fun _ => 0) := arr_congr fun i hi => by
  unfold crossTo
  rw [if_neg (by omega)]
theorem crossTo_hit (f : Nat → Int) (r c : Nat) (hr : r < 8) (hc : c < 8) : crossTo f r (c + 1) (c * 8 + r) = dot c (fun p => f (r * 8 + p)) := by
  unfold crossTo
  rw [if_pos (by omega), crossF_at f c r hr]
theorem crossTo_not (f : Nat → Int) (r c : Nat) (hr : r < 8) (hc : c < 8) : ∀ i, i ≠ c * 8 + r → crossTo f r (c + 1) i = crossTo f r c i := fun i hi => by
  unfold crossTo
  by_cases h : i % 8 < r ∨ (i % 8 = r ∧ i / 8 < c)
  · rw [if_pos h, if_pos (by omega)]
  · rw [if_neg h, if_neg (by omega)]
theorem crossTo_next (f : Nat → Int) (r : Nat) : arr 64 (crossTo f r 8) = arr 64 (crossTo f (r + 1) 0) := arr_congr fun i hi => by
  unfold crossTo
  by_cases h : i % 8 < r + 1
  · rw [if_pos (by omega), if_pos (by omega)]
  · rw [if_neg (by omega), if_neg (by omega)]
theorem crossTo_full (f : Nat → Int) : arr 64 (crossTo f 8 0) = arr 64 (crossF f) := arr_congr fun i hi => by
  unfold crossTo
  rw [if_pos (by omega)]

set_option maxHeartbeats 3200000 in
theorem crossed_any (f : Nat → Int) (w : World) (hf : Wi 100000000 64 f) :
    Calls Tryd.prog 125 #[.agg (arr 64 f)] w fun e w' => e = .returned (.agg (arr 64 (crossF f))) ∧ Below w.heap.size w w' := by
  have HF : Hid (Wi 100000000 64 f) := hf
  clear hf
  go_enter Tryd.func125, Tryd.ntmps125
  go_wp2_with fail
  generalize hW : World.alloc (World.alloc (World.alloc w _) _) _ = W
  have B0 : Blk W w.heap.size (arr 64 f) 104 := by rw [← hW]; exact ((Blk.new w _ _).alloc _).alloc _
  have B1 : Blk W (w.heap.size + 1) (arr 64 (fun _ => 0)) 104 := by rw [← hW]; exact (Blk.new' _ _ (by simp)).alloc _
  have B2 : Blk W (w.heap.size + 1 + 1) (arr 64 (fun _ => 0)) 104 := by rw [← hW]; exact Blk.new' _ _ (by simp)
  have hb0 : Below w.heap.size w W := by rw [← hW]; exact (((Below.refl _ _).alloc (Nat.le_refl _) _).alloc (by simp) _).alloc (by simp; omega) _
  clear hW
  generalize hs : w.heap.size = s at *
  go_loopw [6] (fun i wr => ∃ r : Nat, r ≤ 8 ∧ i = .int .i64 (r : Int) ∧ Blk wr s (arr 64 f) 104 ∧ Blk wr (s + 1) (arr 64 (fun _ => 0)) 104 ∧ Blk wr (s + 1 + 1) (arr 64 (crossTo f r 0)) 104 ∧ Below s w wr) (fun i _ => 8 - (intOf i).toNat)
  case atStart => exact ⟨0, by omega, rfl, B0, B1, by rw [crossTo_none]; exact B2, hb0⟩
  case round =>
    obtain ⟨r, hr, rfl, b0, b1, b2, hb⟩ := hrel
    clear B0 B1 B2 hb0
    by_cases hlt : r < 8
    · have l0 : (0 : Int) ≤ (r : Int) := by omega
      have l1 : (r : Int) < 8 := by omega
      obtain ⟨ρ, hρ⟩ : ∃ ρ : Nat → Int, ρ = fun p => f (r * 8 + p) := ⟨_, rfl⟩
      have HW : Hid (Wi 100000000 8 ρ) := fun i hi => by rw [hρ]; exact HF.out _ (by omega)
      have HR : Hid (ρ = fun p => f (r * 8 + p)) := hρ
      clear hρ
      go_wp2_with fail
      go_loopw [9] (fun i wr => ∃ c : Nat, c ≤ 8 ∧ i = .int .i64 (c : Int) ∧ Blk wr s (arr 64 f) 104 ∧ Blk wr (s + 1) (arr 64 (fun _ => 0)) 104 ∧ Blk wr (s + 1 + 1) (arr 64 (crossTo f r c)) 104 ∧ Below s w wr) (fun i _ => 8 - (intOf i).toNat)
      case atStart => exact ⟨0, by omega, rfl, b0, b1, b2, hb⟩
      case round =>
        obtain ⟨c, hc, rfl, c0, c1, c2, hd⟩ := hrel
        clear b0 b1 b2 hb
        by_cases hlc : c < 8
        · have q0 : (0 : Int) ≤ (c : Int) := by omega
          have q1 : (c : Int) < 8 := by omega
          have HC0 : ∀ w', Calls Tryd.prog 127 #[.agg (arr 8 ρ), .int .i64 (c : Int)] w' (fun e w'' => e = .returned (.int .i64 (dot c ρ)) ∧ Below w'.heap.size w' w'') := fun w' => sum_any ρ c w' HW.out hlc
          have HD : Hid (crossTo f r (c + 1) (c * 8 + r) = dot c ρ) := by show _ = _; rw [crossTo_hit f r c hlt hlc, HR.out]
          obtain ⟨x0, x1, x2, x3, x4, x5, x6, x7, hx⟩ : ∃ x0 x1 x2 x3 x4 x5 x6 x7 : Int, ∀ w', Blk w' s (arr 64 f) 104 → (w'.cell? ⟨s, r * 8, none⟩ = some (.int .i64 x0) ∧ w'.cell? ⟨s, r * 8 + 1, none⟩ = some (.int .i64 x1) ∧ w'.cell? ⟨s, r * 8 + 2, none⟩ = some (.int .i64 x2) ∧ w'.cell? ⟨s, r * 8 + 3, none⟩ = some (.int .i64 x3) ∧ w'.cell? ⟨s, r * 8 + 4, none⟩ = some (.int .i64 x4) ∧ w'.cell? ⟨s, r * 8 + 5, none⟩ = some (.int .i64 x5) ∧ w'.cell? ⟨s, r * 8 + 6, none⟩ = some (.int .i64 x6) ∧ w'.cell? ⟨s, r * 8 + 7, none⟩ = some (.int .i64 x7)) ∧ arr 8 ρ = #[.int .i64 x0, .int .i64 x1, .int .i64 x2, .int .i64 x3, .int .i64 x4, .int .i64 x5, .int .i64 x6, .int .i64 x7] :=
            ⟨f (r * 8 + 0), f (r * 8 + 1), f (r * 8 + 2), f (r * 8 + 3), f (r * 8 + 4), f (r * 8 + 5), f (r * 8 + 6), f (r * 8 + 7), fun w' h => ⟨⟨by rw [h.cell, arr_get f (by omega)]; rfl, by rw [h.cell, arr_get f (by omega)], by rw [h.cell, arr_get f (by omega)], by rw [h.cell, arr_get f (by omega)], by rw [h.cell, arr_get f (by omega)], by rw [h.cell, arr_get f (by omega)], by rw [h.cell, arr_get f (by omega)], by rw [h.cell, arr_get f (by omega)]⟩, by rw [HR.out]; rfl⟩⟩
          have hx8 := (hx wr c0).2
          rw [hx8] at HC0
          have HC : Hid (∀ w', Calls Tryd.prog 127 #[.agg #[.int .i64 x0, .int .i64 x1, .int .i64 x2, .int .i64 x3, .int .i64 x4, .int .i64 x5, .int .i64 x6, .int .i64 x7], .int .i64 (c : Int)] w' (fun e w'' => e = .returned (.int .i64 (dot c ρ)) ∧ Below w'.heap.size w' w'')) := HC0
          have hce : wr.cell? ⟨s + 1 + 1, c * 8 + r, none⟩ = some (.int .i64 (crossTo f r c (c * 8 + r))) := by rw [c2.cell, arr_get _ (by omega)]
          have hfz : wr.frozen? ⟨s + 1 + 1, c * 8 + r, none⟩ = false := c2.frozen _
          have HY : Hid (∀ w', Blk w' (s + 1 + 1) (arr 64 (crossTo f r c)) 104 → w'.cell? ⟨s + 1 + 1, c * 8 + r, none⟩ = some (.int .i64 (crossTo f r c (c * 8 + r))) ∧ w'.frozen? ⟨s + 1 + 1, c * 8 + r, none⟩ = false) := fun w' h => ⟨by rw [h.cell, arr_get _ (by omega)], h.frozen _⟩
          clear hx8 HC0
          generalize crossTo f r c (c * 8 + r) = y at *
          generalize dot c ρ = z at *
          obtain ⟨⟨e0, e1, e2, e3, e4, e5, e6, e7⟩, _⟩ := hx wr c0
          have HK : Hid (∀ w', Below wr.heap.size wr w' → w'.cell? ⟨s, r * 8, none⟩ = some (.int .i64 x0) ∧ w'.cell? ⟨s, r * 8 + 1, none⟩ = some (.int .i64 x1) ∧ w'.cell? ⟨s, r * 8 + 2, none⟩ = some (.int .i64 x2) ∧ w'.cell? ⟨s, r * 8 + 3, none⟩ = some (.int .i64 x3) ∧ w'.cell? ⟨s, r * 8 + 4, none⟩ = some (.int .i64 x4) ∧ w'.cell? ⟨s, r * 8 + 5, none⟩ = some (.int .i64 x5) ∧ w'.cell? ⟨s, r * 8 + 6, none⟩ = some (.int .i64 x6) ∧ w'.cell? ⟨s, r * 8 + 7, none⟩ = some (.int .i64 x7) ∧ w'.cell? ⟨s + 1 + 1, c * 8 + r, none⟩ = some (.int .i64 y) ∧ w'.frozen? ⟨s + 1 + 1, c * 8 + r, none⟩ = false) := fun w' h => by
            obtain ⟨⟨e0, e1, e2, e3, e4, e5, e6, e7⟩, _⟩ := hx w' (c0.below h c0.lt)
            obtain ⟨e8, e9⟩ := HY.out w' (c2.below h c2.lt)
            exact ⟨e0, e1, e2, e3, e4, e5, e6, e7, e8, e9⟩
          clear hx HY
          go_wp2_with fail
          go_region_with ((go_at_call 127; refine (HC.out _).mono ?_; rintro e w2 ⟨rfl, hx⟩; have hcA : Below wr.heap.size wr w2 := (Below.refl _ _).drew.trans (hx.mono (Nat.le_refl _)); clear hx; obtain ⟨_, _, _, _, _, _, _, _, e8, e9⟩ := HK.out _ hcA))
          have z2 := (c2.below hcA c2.lt).set (c * 8 + r) (.int .i64 z) (by rw [arr_size]; omega)
          rw [arr_set (g := crossTo f r (c + 1)) z HD.out (crossTo_not f r c hlt hlc)] at z2
          have z1 := (c1.below hcA c1.lt).other ⟨s + 1 + 1, c * 8 + r, none⟩ (.int .i64 z) (by simp)
          have z0 := (c0.below hcA c0.lt).other ⟨s + 1 + 1, c * 8 + r, none⟩ (.int .i64 z) (by simp; omega)
          have zb := (hd.trans (hcA.mono (by rw [← hs]; exact hd.size))).setCell (p := ⟨s + 1 + 1, c * 8 + r, none⟩) (by simp; omega) (.int .i64 z)
          go_wp2
          refine ⟨⟨c + 1, by omega, by go_num, z0, z1, z2, zb⟩, ?_⟩
          simp [intOf]; omega
        · obtain rfl : c = 8 := by omega
          rw [crossTo_next] at c2
          go_wp2_with fail
          refine ⟨⟨r + 1, by omega, by go_num, c0, c1, c2, hd⟩, ?_⟩
          simp [intOf]; omega
    · obtain rfl : r = 8 := by omega
      rw [crossTo_full] at b2
      obtain ⟨ρ, hρ⟩ : ∃ ρ, ρ = crossF f := ⟨_, rfl⟩
      have HR : Hid (crossF f = ρ) := hρ.symm
      rw [← hρ] at b2
      clear hρ
      have HZ : Hid (Blk (wr.setCells (s + 1) 0 (arr 64 ρ).toList) (s + 1) (arr 64 ρ) 104) := arr_store (k := ρ) b1 0 64 (by omega) (fun i hi => by rw [Nat.zero_add]) (fun i hi h => by omega)
      have hbb := below_setCells (g := s + 1) (by omega) (arr 64 ρ).toList 0 wr hb
      have rg := range_all b2
      have th := there_of_arr b1 0 64 (by omega)
      clear b0 b1 b2 hb hlt hr
      go_wp2_with (first
        | ((with_reducible refine at_load ?_); refine load_arr rfl _ _ rfl (s + 1 + 1) 0 rfl 64 ρ rg Tryd.underlying104 rfl size55 ?_; simp only [Act.put, List.setIfInBounds_toArray, List.set_cons_zero, List.set_cons_succ])
        | ((with_reducible refine at_store ?_); refine store_arr rfl _ _ _ rfl (s + 1) 0 rfl 64 ρ rfl th size55 ?_; clear th rg; generalize World.setCells wr (s + 1) 0 (arr 64 ρ).toList = wz at *))
      refine bodyPost_ret (results_cell_row rfl _ _ (s + 1) 104 _ (0, 0) _ rfl HZ.out Tryd.underlying104 rfl (by rw [arr_size]; exact size55)) rfl ?_
      exact ⟨by rw [HR.out], by rw [hs]; exact hbb⟩
end Go.Proofs.YtlejfkjanllgbaaDoor
