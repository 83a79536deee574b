/-
  The four guesses of edges: the walk of impl.guessesOf.
-/
import Derived.Test.YtkakiollhhmmaaaGuessDots
import Derived.Test.YtkakiollhhmmaaaRegKit
import Derived.Test.YtkakiollhhmmaaaEightCells
import Derived.Deep.CutRange
import Derived.Deep.RegionWith
namespace Go.Proofs.Ytkakiollhhmmaaa
open Go.RowKit
set_option linter.unusedVariables false
set_option maxRecDepth 20000

theorem wp_store_arr {P : Program} {op : Oper} {a : Act} {w : World} {K : Act → World → Prop} {Q : Exit → Act → World → Prop} (ty : TypeId) (x y : Operand) (ho : op.op = .store ty x y)
    (b o : Nat) (hx : a.eval x = .pointer (some ⟨b, o, none⟩)) (m : Nat) (r : Nat → Int) (hy : a.eval y = .agg (arr m r)) (ht : w.there b o m) (hi : (P.info? ty).map (·.size) = some m)
    (h : K (a.put op.dst undef) (w.setCells b o (arr m r).toList)) : op.wp P a w K Q :=
  wp_store_mid ty x y ho b o (arr m r) hx hy (by rw [arr_size]; exact ht) (by rw [arr_size]; exact hi) (arr_one _ _) h

/-- The numbers of a slope: the line above, the line at the left, the corner. -/
def slF (ρ τ : Nat → Int) (c : Int) (i : Nat) : Int := if i < 8 then ρ i else if i < 16 then τ (i - 8) else c
theorem arr_eight (ρ : Nat → Int) : arr 8 ρ = #[.int .i64 (ρ 0), .int .i64 (ρ 1), .int .i64 (ρ 2), .int .i64 (ρ 3), .int .i64 (ρ 4), .int .i64 (ρ 5), .int .i64 (ρ 6), .int .i64 (ρ 7)] := rfl
theorem arr_slope (ρ τ : Nat → Int) (c : Int) : arr 17 (slF ρ τ c) = #[.int .i64 (ρ 0), .int .i64 (ρ 1), .int .i64 (ρ 2), .int .i64 (ρ 3), .int .i64 (ρ 4), .int .i64 (ρ 5), .int .i64 (ρ 6), .int .i64 (ρ 7), .int .i64 (τ 0), .int .i64 (τ 1), .int .i64 (τ 2), .int .i64 (τ 3), .int .i64 (τ 4), .int .i64 (τ 5), .int .i64 (τ 6), .int .i64 (τ 7), .int .i64 c] := rfl

/-- Two lines in two variables, and a number. -/
def LinesAt (V : World) (A B : Array Value) (c : Int) (p3 p4 p5 : Value) (wc : World) : Prop :=
  ∃ g3 g4, p3 = .pointer (some ⟨g3, 0, none⟩) ∧ p4 = .pointer (some ⟨g4, 0, none⟩) ∧ p5 = .int .i64 c ∧ V.heap.size ≤ g3 ∧ V.heap.size ≤ g4 ∧ Blk wc g3 A 65 ∧ Blk wc g4 B 65 ∧ Below V.heap.size V wc

set_option maxHeartbeats 3200000 in
theorem guessesOf_any (a1 a2 : Option Addr) (c1 c2 n m : Nat) (c mid : Int) (ρ τ : Nat → Int) (w : World)
    (h1 : ∀ W, Below w.heap.size w W → Calls Try.prog 45 #[.slice a1 n c1] W fun e w' => e = .returned (.agg (arr 8 ρ)) ∧ Below W.heap.size W w')
    (h2 : ∀ W, Below w.heap.size w W → Calls Try.prog 45 #[.slice a2 m c2] W fun e w' => e = .returned (.agg (arr 8 τ)) ∧ Below W.heap.size W w')
    (h3 : ∀ W, Below w.heap.size w W → Calls Try.prog 46 #[edgV a1 n c1 a2 m c2 c] W fun e w' => e = .returned (.int .i64 mid) ∧ Below W.heap.size W w') :
    Calls Try.prog 27 #[edgV a1 n c1 a2 m c2 c] w fun e w' => ∃ g, e = .returned (.slice (some ⟨g, 0, none⟩) 4 4) ∧ Blk w' g #[midV mid, downV ρ, acrossV τ, slopeV (slF ρ τ (cornF c))] 51 ∧ Below w.heap.size w w' := by
  have B0 := Blk.new w #[.slice a1 n c1, .slice a2 m c2, .int .i64 c] 26
  have hb0 := (Below.refl w.heap.size w).alloc (Nat.le_refl _) (.cells #[.slice a1 n c1, .slice a2 m c2, .int .i64 c] 26)
  go_enter Try.func27, Try.ntmps27
  go_wp2_with fail
  generalize World.alloc w _ = V at *
  generalize hs : w.heap.size = s at *
  have HB : Hid (∀ w', Below V.heap.size V w' → (w'.cell? ⟨s, 0, none⟩ = some (.slice a1 n c1) ∧ w'.cell? ⟨s, 1, none⟩ = some (.slice a2 m c2) ∧ w'.cell? ⟨s, 2, none⟩ = some (.int .i64 c))) := fun w' h => ((B0.below h B0.lt).three).1
  have H1 : Hid (∀ W, Below V.heap.size V W → Calls Try.prog 45 #[.slice a1 n c1] W fun e w' => e = .returned (.agg (arr 8 ρ)) ∧ Below W.heap.size W w') := fun W h => h1 W (hb0.trans (h.mono (by have := B0.lt; omega)))
  have H2 : Hid (∀ W, Below V.heap.size V W → Calls Try.prog 45 #[.slice a2 m c2] W fun e w' => e = .returned (.agg (arr 8 τ)) ∧ Below W.heap.size W w') := fun W h => h2 W (hb0.trans (h.mono (by have := B0.lt; omega)))
  have H3 : Hid (∀ W, Below V.heap.size V W → Calls Try.prog 46 #[edgV a1 n c1 a2 m c2 c] W fun e w' => e = .returned (.int .i64 mid) ∧ Below W.heap.size W w') := fun W h => h3 W (hb0.trans (h.mono (by have := B0.lt; omega)))
  have hsV : s < V.heap.size := B0.lt
  clear h1 h2 h3 B0
  have K0 := HB.out V.drew (Below.refl V.heap.size V).drew
  go_cut [3, 4, 5] from 6 to 13 (fun p3 p4 p5 wc => LinesAt V (arr 8 ρ) (arr 8 τ) c p3 p4 p5 wc)
  case first =>
    refine wp_region_held_drew (S := fun w' => (w'.cell? ⟨s, 0, none⟩ = some (.slice a1 n c1) ∧ w'.cell? ⟨s, 1, none⟩ = some (.slice a2 m c2) ∧ w'.cell? ⟨s, 2, none⟩ = some (.int .i64 c))) (by kernel_rfl) K0 (fun hHeld => ?_)
    have hb0d : Below V.heap.size V V.drew := (Below.refl V.heap.size V).drew
    clear K0
    refine reg_take 0 6 _ rfl rfl (by kernel_rfl) (by kernel_rfl) (by kernel_rfl) (fun _ _ _ h => h) (by rfl) (by intro w' hSw; (try dsimp only at hSw); simp only [List.getElem_toArray, List.getElem_cons_zero]; go_simp; rfl) (by assumption) ?_; (try simp only [Act.put, List.setIfInBounds_toArray, List.set_cons_zero, List.set_cons_succ])
    refine reg_take 1 7 _ rfl rfl (by kernel_rfl) (by kernel_rfl) (by kernel_rfl) (fun _ _ _ h => h) (by rfl) (by intro w' hSw; (try dsimp only at hSw); simp only [List.getElem_toArray, List.getElem_cons_succ, List.getElem_cons_zero]; go_simp; rfl) (by assumption) ?_; (try simp only [Act.put, List.setIfInBounds_toArray, List.set_cons_zero, List.set_cons_succ])
    refine reg_take 3 9 _ rfl rfl (by kernel_rfl) (by kernel_rfl) (by kernel_rfl) (fun _ _ _ h => h) (by rfl) (by intro w' hSw; (try dsimp only at hSw); simp only [List.getElem_toArray, List.getElem_cons_succ, List.getElem_cons_zero]; go_simp; rfl) (by assumption) ?_; (try simp only [Act.put, List.setIfInBounds_toArray, List.set_cons_zero, List.set_cons_succ])
    refine reg_take 4 10 _ rfl rfl (by kernel_rfl) (by kernel_rfl) (by kernel_rfl) (fun _ _ _ h => h) (by rfl) (by intro w' hSw; (try dsimp only at hSw); simp only [List.getElem_toArray, List.getElem_cons_succ, List.getElem_cons_zero]; go_simp; rfl) (by assumption) ?_; (try simp only [Act.put, List.setIfInBounds_toArray, List.set_cons_zero, List.set_cons_succ])
    refine reg_take 6 12 _ rfl rfl (by kernel_rfl) (by kernel_rfl) (by kernel_rfl) (fun _ _ _ h => h) (by rfl) (by intro w' hSw; (try dsimp only at hSw); simp only [List.getElem_toArray, List.getElem_cons_succ, List.getElem_cons_zero]; go_simp; rfl) (by assumption) ?_; (try simp only [Act.put, List.setIfInBounds_toArray, List.set_cons_zero, List.set_cons_succ])
    refine reg_take 7 13 _ rfl rfl (by kernel_rfl) (by kernel_rfl) (by kernel_rfl) (fun _ _ _ h => h) (by rfl) (by intro w' hSw; (try dsimp only at hSw); simp only [List.getElem_toArray, List.getElem_cons_succ, List.getElem_cons_zero]; go_simp; rfl) (by assumption) ?_; (try simp only [Act.put, List.setIfInBounds_toArray, List.set_cons_zero, List.set_cons_succ])
    generalize hVd : V.drew = V0 at *
    clear hVd
    refine wpAnyH_ready (rs := [2, 8, 9]) (by kernel_rfl) (by simp) ?_
    refine AllReadyH.cons rfl (fun K hK => ?_) (AllReadyH.cons rfl (fun K hK => ?_) (AllReadyH.cons rfl (fun K hK => ?_) AllReadyH.nil))
    · rw [if_pos (by rfl)]
      simp only [List.getElem_toArray, List.getElem_cons_succ, List.getElem_cons_zero]
      go_simp
      refine (H1.out _ hb0d).mono ?_
      rintro e u1 ⟨rfl, hr⟩
      have hb2 := hb0d.trans (hr.mono hb0d.size)
      clear hr hb0d
      go_wp2_with fail
      refine hK.out _ _ (HB.out _ hb2) (fun hHeld => ?_)
      clear hK K
      refine wpAnyH_ready (rs := [5, 8, 9]) (by kernel_rfl) (by simp) ?_
      refine AllReadyH.cons rfl (fun K hK => ?_) (AllReadyH.cons rfl (fun K hK => ?_) (AllReadyH.cons rfl (fun K hK => ?_) AllReadyH.nil))
      · rw [if_pos (by rfl)]
        simp only [List.getElem_toArray, List.getElem_cons_succ, List.getElem_cons_zero]
        go_simp
        refine (H2.out _ hb2).mono ?_
        rintro e u3 ⟨rfl, hr⟩
        have hb4 := hb2.trans (hr.mono hb2.size)
        clear hr hb2
        go_wp2_with fail
        refine hK.out _ _ (HB.out _ hb4) (fun hHeld => ?_)
        clear hK K
        refine wpAnyH_ready (rs := [8, 9]) (by kernel_rfl) (by simp) ?_
        refine AllReadyH.cons rfl (fun K hK => ?_) (AllReadyH.cons rfl (fun K hK => ?_) AllReadyH.nil)
        · rw [if_pos (by rfl)]
          simp only [List.getElem_toArray, List.getElem_cons_succ, List.getElem_cons_zero]
          go_simp
          have Z5 : Blk (u3.alloc (.cells (arr 8 (fun _ => 0)) 65)) u3.heap.size (arr 8 (fun _ => 0)) 65 := Blk.new u3 _ _
          have hb6 := hb4.alloc hb4.size (.cells (arr 8 (fun _ => 0)) 65)
          have hv7 := hb4.size
          refine hK.out _ _ (HB.out _ hb6) (fun hHeld => ?_)
          clear hK K hb4
          change wpAnyH _ _ _ _ _ _ _ _ (u3.alloc (.cells (arr 8 (fun _ => 0)) 65))
          change ((u3.alloc (.cells (arr 8 (fun _ => 0)) 65)).cell? ⟨s, 0, none⟩ = some (.slice a1 n c1) ∧ (u3.alloc (.cells (arr 8 (fun _ => 0)) 65)).cell? ⟨s, 1, none⟩ = some (.slice a2 m c2) ∧ (u3.alloc (.cells (arr 8 (fun _ => 0)) 65)).cell? ⟨s, 2, none⟩ = some (.int .i64 c)) at hHeld
          generalize u3.alloc (.cells (arr 8 (fun _ => 0)) 65) = w8 at *
          generalize u3.heap.size = g3 at *
          refine wpAnyH_ready (rs := [9]) (by kernel_rfl) (by simp) ?_
          refine AllReadyH.cons rfl (fun K hK => ?_) AllReadyH.nil
          · rw [if_pos (by rfl)]
            simp only [List.getElem_toArray, List.getElem_cons_succ, List.getElem_cons_zero]
            go_simp
            have Z9 : Blk (w8.alloc (.cells (arr 8 (fun _ => 0)) 65)) w8.heap.size (arr 8 (fun _ => 0)) 65 := Blk.new w8 _ _
            have hb10 := hb6.alloc hb6.size (.cells (arr 8 (fun _ => 0)) 65)
            have hv11 := hb6.size
            have Z13 := Z5.alloc (.cells (arr 8 (fun _ => 0)) 65)
            have ne14 : g3 ≠ w8.heap.size := by have := Z5.lt; omega
            refine hK.out _ _ (HB.out _ hb10) (fun hHeld => ?_)
            clear hK K hb6 Z5
            change wpAnyH _ _ _ _ _ _ _ _ (w8.alloc (.cells (arr 8 (fun _ => 0)) 65))
            change ((w8.alloc (.cells (arr 8 (fun _ => 0)) 65)).cell? ⟨s, 0, none⟩ = some (.slice a1 n c1) ∧ (w8.alloc (.cells (arr 8 (fun _ => 0)) 65)).cell? ⟨s, 1, none⟩ = some (.slice a2 m c2) ∧ (w8.alloc (.cells (arr 8 (fun _ => 0)) 65)).cell? ⟨s, 2, none⟩ = some (.int .i64 c)) at hHeld
            generalize w8.alloc (.cells (arr 8 (fun _ => 0)) 65) = w12 at *
            generalize w8.heap.size = g4 at *
            refine wpAnyH_ready (rs := [10]) (by kernel_rfl) (by simp) ?_
            refine AllReadyH.cons rfl (fun K hK => ?_) AllReadyH.nil
            rw [if_pos (by rfl)]
            simp only [List.getElem_toArray, List.getElem_cons_succ, List.getElem_cons_zero]
            refine wp_store_arr _ _ _ rfl g3 0 rfl 8 ρ rfl (there_of_arr Z13 0 8 (by omega)) size8 ?_
            have Y15 := arr_store (k := ρ) Z13 0 8 (by omega) (fun i hi => by rw [Nat.zero_add]) (fun i hi h => by omega)
            have Y16 := Z9.others (g' := g3) (fun e => ne14 e.symm) (arr 8 ρ).toList 0
            have hb17 := below_setCells (g := g3) hv7 (arr 8 ρ).toList 0 w12 hb10
            refine hK.out _ _ (HB.out _ hb17) (fun hHeld => ?_)
            clear hK K Z13 Z9 hb10
            generalize World.setCells w12 g3 0 (arr 8 ρ).toList = wy at *
            (try simp only [Act.put])
            refine wpAnyH_ready (rs := [11]) (by kernel_rfl) (by simp) ?_
            refine AllReadyH.cons rfl (fun K hK => ?_) AllReadyH.nil
            rw [if_pos (by rfl)]
            simp only [List.getElem_toArray, List.getElem_cons_succ, List.getElem_cons_zero]
            refine wp_store_arr _ _ _ rfl g4 0 rfl 8 τ rfl (there_of_arr Y16 0 8 (by omega)) size8 ?_
            have Y19 := arr_store (k := τ) Y16 0 8 (by omega) (fun i hi => by rw [Nat.zero_add]) (fun i hi h => by omega)
            have Y18 := Y15.others (g' := g4) ne14 (arr 8 τ).toList 0
            have hb20 := below_setCells (g := g4) hv11 (arr 8 τ).toList 0 wy hb17
            refine hK.out _ _ (HB.out _ hb20) (fun hHeld => ?_)
            clear hK K Y15 Y16 hb17
            generalize World.setCells wy g4 0 (arr 8 τ).toList = wz at *
            (try simp only [Act.put])
            refine reg_take 12 5 _ rfl rfl (by kernel_rfl) (by kernel_rfl) (by kernel_rfl) (fun _ _ _ h => h) (by rfl) (by intro w' hSw; (try dsimp only at hSw); simp only [List.getElem_toArray, List.getElem_cons_succ, List.getElem_cons_zero]; go_simp; rfl) (by assumption) ?_; (try simp only [Act.put, List.setIfInBounds_toArray, List.set_cons_zero, List.set_cons_succ])
            refine wpAnyH_done (by kernel_rfl) ?_ _
            go_wp2_with fail
            go_meet
            exact ⟨g3, g4, rfl, rfl, rfl, hv7, hv11, Y18, Y19, hb20⟩
        · rw [if_pos (by rfl)]
          simp only [List.getElem_toArray, List.getElem_cons_succ, List.getElem_cons_zero]
          go_simp
          have Z21 : Blk (u3.alloc (.cells (arr 8 (fun _ => 0)) 65)) u3.heap.size (arr 8 (fun _ => 0)) 65 := Blk.new u3 _ _
          have hb22 := hb4.alloc hb4.size (.cells (arr 8 (fun _ => 0)) 65)
          have hv23 := hb4.size
          refine hK.out _ _ (HB.out _ hb22) (fun hHeld => ?_)
          clear hK K hb4
          change wpAnyH _ _ _ _ _ _ _ _ (u3.alloc (.cells (arr 8 (fun _ => 0)) 65))
          change ((u3.alloc (.cells (arr 8 (fun _ => 0)) 65)).cell? ⟨s, 0, none⟩ = some (.slice a1 n c1) ∧ (u3.alloc (.cells (arr 8 (fun _ => 0)) 65)).cell? ⟨s, 1, none⟩ = some (.slice a2 m c2) ∧ (u3.alloc (.cells (arr 8 (fun _ => 0)) 65)).cell? ⟨s, 2, none⟩ = some (.int .i64 c)) at hHeld
          generalize u3.alloc (.cells (arr 8 (fun _ => 0)) 65) = w24 at *
          generalize u3.heap.size = g4 at *
          refine wpAnyH_ready (rs := [8]) (by kernel_rfl) (by simp) ?_
          refine AllReadyH.cons rfl (fun K hK => ?_) AllReadyH.nil
          · rw [if_pos (by rfl)]
            simp only [List.getElem_toArray, List.getElem_cons_succ, List.getElem_cons_zero]
            go_simp
            have Z25 : Blk (w24.alloc (.cells (arr 8 (fun _ => 0)) 65)) w24.heap.size (arr 8 (fun _ => 0)) 65 := Blk.new w24 _ _
            have hb26 := hb22.alloc hb22.size (.cells (arr 8 (fun _ => 0)) 65)
            have hv27 := hb22.size
            have Z29 := Z21.alloc (.cells (arr 8 (fun _ => 0)) 65)
            have ne30 : w24.heap.size ≠ g4 := by have := Z21.lt; omega
            refine hK.out _ _ (HB.out _ hb26) (fun hHeld => ?_)
            clear hK K hb22 Z21
            change wpAnyH _ _ _ _ _ _ _ _ (w24.alloc (.cells (arr 8 (fun _ => 0)) 65))
            change ((w24.alloc (.cells (arr 8 (fun _ => 0)) 65)).cell? ⟨s, 0, none⟩ = some (.slice a1 n c1) ∧ (w24.alloc (.cells (arr 8 (fun _ => 0)) 65)).cell? ⟨s, 1, none⟩ = some (.slice a2 m c2) ∧ (w24.alloc (.cells (arr 8 (fun _ => 0)) 65)).cell? ⟨s, 2, none⟩ = some (.int .i64 c)) at hHeld
            generalize w24.alloc (.cells (arr 8 (fun _ => 0)) 65) = w28 at *
            generalize w24.heap.size = g3 at *
            refine wpAnyH_ready (rs := [10]) (by kernel_rfl) (by simp) ?_
            refine AllReadyH.cons rfl (fun K hK => ?_) AllReadyH.nil
            rw [if_pos (by rfl)]
            simp only [List.getElem_toArray, List.getElem_cons_succ, List.getElem_cons_zero]
            refine wp_store_arr _ _ _ rfl g3 0 rfl 8 ρ rfl (there_of_arr Z25 0 8 (by omega)) size8 ?_
            have Y31 := arr_store (k := ρ) Z25 0 8 (by omega) (fun i hi => by rw [Nat.zero_add]) (fun i hi h => by omega)
            have Y32 := Z29.others (g' := g3) (fun e => ne30 e.symm) (arr 8 ρ).toList 0
            have hb33 := below_setCells (g := g3) hv27 (arr 8 ρ).toList 0 w28 hb26
            refine hK.out _ _ (HB.out _ hb33) (fun hHeld => ?_)
            clear hK K Z25 Z29 hb26
            generalize World.setCells w28 g3 0 (arr 8 ρ).toList = wy at *
            (try simp only [Act.put])
            refine wpAnyH_ready (rs := [11]) (by kernel_rfl) (by simp) ?_
            refine AllReadyH.cons rfl (fun K hK => ?_) AllReadyH.nil
            rw [if_pos (by rfl)]
            simp only [List.getElem_toArray, List.getElem_cons_succ, List.getElem_cons_zero]
            refine wp_store_arr _ _ _ rfl g4 0 rfl 8 τ rfl (there_of_arr Y32 0 8 (by omega)) size8 ?_
            have Y35 := arr_store (k := τ) Y32 0 8 (by omega) (fun i hi => by rw [Nat.zero_add]) (fun i hi h => by omega)
            have Y34 := Y31.others (g' := g4) ne30 (arr 8 τ).toList 0
            have hb36 := below_setCells (g := g4) hv23 (arr 8 τ).toList 0 wy hb33
            refine hK.out _ _ (HB.out _ hb36) (fun hHeld => ?_)
            clear hK K Y31 Y32 hb33
            generalize World.setCells wy g4 0 (arr 8 τ).toList = wz at *
            (try simp only [Act.put])
            refine reg_take 12 5 _ rfl rfl (by kernel_rfl) (by kernel_rfl) (by kernel_rfl) (fun _ _ _ h => h) (by rfl) (by intro w' hSw; (try dsimp only at hSw); simp only [List.getElem_toArray, List.getElem_cons_succ, List.getElem_cons_zero]; go_simp; rfl) (by assumption) ?_; (try simp only [Act.put, List.setIfInBounds_toArray, List.set_cons_zero, List.set_cons_succ])
            refine wpAnyH_done (by kernel_rfl) ?_ _
            go_wp2_with fail
            go_meet
            exact ⟨g3, g4, rfl, rfl, rfl, hv27, hv23, Y34, Y35, hb36⟩
      · rw [if_pos (by rfl)]
        simp only [List.getElem_toArray, List.getElem_cons_succ, List.getElem_cons_zero]
        go_simp
        have Z37 : Blk (u1.alloc (.cells (arr 8 (fun _ => 0)) 65)) u1.heap.size (arr 8 (fun _ => 0)) 65 := Blk.new u1 _ _
        have hb38 := hb2.alloc hb2.size (.cells (arr 8 (fun _ => 0)) 65)
        have hv39 := hb2.size
        refine hK.out _ _ (HB.out _ hb38) (fun hHeld => ?_)
        clear hK K hb2
        change wpAnyH _ _ _ _ _ _ _ _ (u1.alloc (.cells (arr 8 (fun _ => 0)) 65))
        change ((u1.alloc (.cells (arr 8 (fun _ => 0)) 65)).cell? ⟨s, 0, none⟩ = some (.slice a1 n c1) ∧ (u1.alloc (.cells (arr 8 (fun _ => 0)) 65)).cell? ⟨s, 1, none⟩ = some (.slice a2 m c2) ∧ (u1.alloc (.cells (arr 8 (fun _ => 0)) 65)).cell? ⟨s, 2, none⟩ = some (.int .i64 c)) at hHeld
        generalize u1.alloc (.cells (arr 8 (fun _ => 0)) 65) = w40 at *
        generalize u1.heap.size = g3 at *
        refine wpAnyH_ready (rs := [5, 9]) (by kernel_rfl) (by simp) ?_
        refine AllReadyH.cons rfl (fun K hK => ?_) (AllReadyH.cons rfl (fun K hK => ?_) AllReadyH.nil)
        · rw [if_pos (by rfl)]
          simp only [List.getElem_toArray, List.getElem_cons_succ, List.getElem_cons_zero]
          go_simp
          refine (H2.out _ hb38).mono ?_
          rintro e u41 ⟨rfl, hr⟩
          have hb42 := hb38.trans (hr.mono hb38.size)
          have Z43 := Z37.below hr Z37.lt
          clear hr hb38 Z37
          go_wp2_with fail
          refine hK.out _ _ (HB.out _ hb42) (fun hHeld => ?_)
          clear hK K
          refine wpAnyH_ready (rs := [9]) (by kernel_rfl) (by simp) ?_
          refine AllReadyH.cons rfl (fun K hK => ?_) AllReadyH.nil
          · rw [if_pos (by rfl)]
            simp only [List.getElem_toArray, List.getElem_cons_succ, List.getElem_cons_zero]
            go_simp
            have Z44 : Blk (u41.alloc (.cells (arr 8 (fun _ => 0)) 65)) u41.heap.size (arr 8 (fun _ => 0)) 65 := Blk.new u41 _ _
            have hb45 := hb42.alloc hb42.size (.cells (arr 8 (fun _ => 0)) 65)
            have hv46 := hb42.size
            have Z48 := Z43.alloc (.cells (arr 8 (fun _ => 0)) 65)
            have ne49 : g3 ≠ u41.heap.size := by have := Z43.lt; omega
            refine hK.out _ _ (HB.out _ hb45) (fun hHeld => ?_)
            clear hK K hb42 Z43
            change wpAnyH _ _ _ _ _ _ _ _ (u41.alloc (.cells (arr 8 (fun _ => 0)) 65))
            change ((u41.alloc (.cells (arr 8 (fun _ => 0)) 65)).cell? ⟨s, 0, none⟩ = some (.slice a1 n c1) ∧ (u41.alloc (.cells (arr 8 (fun _ => 0)) 65)).cell? ⟨s, 1, none⟩ = some (.slice a2 m c2) ∧ (u41.alloc (.cells (arr 8 (fun _ => 0)) 65)).cell? ⟨s, 2, none⟩ = some (.int .i64 c)) at hHeld
            generalize u41.alloc (.cells (arr 8 (fun _ => 0)) 65) = w47 at *
            generalize u41.heap.size = g4 at *
            refine wpAnyH_ready (rs := [10]) (by kernel_rfl) (by simp) ?_
            refine AllReadyH.cons rfl (fun K hK => ?_) AllReadyH.nil
            rw [if_pos (by rfl)]
            simp only [List.getElem_toArray, List.getElem_cons_succ, List.getElem_cons_zero]
            refine wp_store_arr _ _ _ rfl g3 0 rfl 8 ρ rfl (there_of_arr Z48 0 8 (by omega)) size8 ?_
            have Y50 := arr_store (k := ρ) Z48 0 8 (by omega) (fun i hi => by rw [Nat.zero_add]) (fun i hi h => by omega)
            have Y51 := Z44.others (g' := g3) (fun e => ne49 e.symm) (arr 8 ρ).toList 0
            have hb52 := below_setCells (g := g3) hv39 (arr 8 ρ).toList 0 w47 hb45
            refine hK.out _ _ (HB.out _ hb52) (fun hHeld => ?_)
            clear hK K Z48 Z44 hb45
            generalize World.setCells w47 g3 0 (arr 8 ρ).toList = wy at *
            (try simp only [Act.put])
            refine wpAnyH_ready (rs := [11]) (by kernel_rfl) (by simp) ?_
            refine AllReadyH.cons rfl (fun K hK => ?_) AllReadyH.nil
            rw [if_pos (by rfl)]
            simp only [List.getElem_toArray, List.getElem_cons_succ, List.getElem_cons_zero]
            refine wp_store_arr _ _ _ rfl g4 0 rfl 8 τ rfl (there_of_arr Y51 0 8 (by omega)) size8 ?_
            have Y54 := arr_store (k := τ) Y51 0 8 (by omega) (fun i hi => by rw [Nat.zero_add]) (fun i hi h => by omega)
            have Y53 := Y50.others (g' := g4) ne49 (arr 8 τ).toList 0
            have hb55 := below_setCells (g := g4) hv46 (arr 8 τ).toList 0 wy hb52
            refine hK.out _ _ (HB.out _ hb55) (fun hHeld => ?_)
            clear hK K Y50 Y51 hb52
            generalize World.setCells wy g4 0 (arr 8 τ).toList = wz at *
            (try simp only [Act.put])
            refine reg_take 12 5 _ rfl rfl (by kernel_rfl) (by kernel_rfl) (by kernel_rfl) (fun _ _ _ h => h) (by rfl) (by intro w' hSw; (try dsimp only at hSw); simp only [List.getElem_toArray, List.getElem_cons_succ, List.getElem_cons_zero]; go_simp; rfl) (by assumption) ?_; (try simp only [Act.put, List.setIfInBounds_toArray, List.set_cons_zero, List.set_cons_succ])
            refine wpAnyH_done (by kernel_rfl) ?_ _
            go_wp2_with fail
            go_meet
            exact ⟨g3, g4, rfl, rfl, rfl, hv39, hv46, Y53, Y54, hb55⟩
        · rw [if_pos (by rfl)]
          simp only [List.getElem_toArray, List.getElem_cons_succ, List.getElem_cons_zero]
          go_simp
          have Z56 : Blk (w40.alloc (.cells (arr 8 (fun _ => 0)) 65)) w40.heap.size (arr 8 (fun _ => 0)) 65 := Blk.new w40 _ _
          have hb57 := hb38.alloc hb38.size (.cells (arr 8 (fun _ => 0)) 65)
          have hv58 := hb38.size
          have Z60 := Z37.alloc (.cells (arr 8 (fun _ => 0)) 65)
          have ne61 : g3 ≠ w40.heap.size := by have := Z37.lt; omega
          refine hK.out _ _ (HB.out _ hb57) (fun hHeld => ?_)
          clear hK K hb38 Z37
          change wpAnyH _ _ _ _ _ _ _ _ (w40.alloc (.cells (arr 8 (fun _ => 0)) 65))
          change ((w40.alloc (.cells (arr 8 (fun _ => 0)) 65)).cell? ⟨s, 0, none⟩ = some (.slice a1 n c1) ∧ (w40.alloc (.cells (arr 8 (fun _ => 0)) 65)).cell? ⟨s, 1, none⟩ = some (.slice a2 m c2) ∧ (w40.alloc (.cells (arr 8 (fun _ => 0)) 65)).cell? ⟨s, 2, none⟩ = some (.int .i64 c)) at hHeld
          generalize w40.alloc (.cells (arr 8 (fun _ => 0)) 65) = w59 at *
          generalize w40.heap.size = g4 at *
          refine wpAnyH_ready (rs := [5]) (by kernel_rfl) (by simp) ?_
          refine AllReadyH.cons rfl (fun K hK => ?_) AllReadyH.nil
          · rw [if_pos (by rfl)]
            simp only [List.getElem_toArray, List.getElem_cons_succ, List.getElem_cons_zero]
            go_simp
            refine (H2.out _ hb57).mono ?_
            rintro e u62 ⟨rfl, hr⟩
            have hb63 := hb57.trans (hr.mono hb57.size)
            have Z64 := Z60.below hr Z60.lt
            have Z65 := Z56.below hr Z56.lt
            clear hr hb57 Z60 Z56
            go_wp2_with fail
            refine hK.out _ _ (HB.out _ hb63) (fun hHeld => ?_)
            clear hK K
            refine wpAnyH_ready (rs := [10]) (by kernel_rfl) (by simp) ?_
            refine AllReadyH.cons rfl (fun K hK => ?_) AllReadyH.nil
            rw [if_pos (by rfl)]
            simp only [List.getElem_toArray, List.getElem_cons_succ, List.getElem_cons_zero]
            refine wp_store_arr _ _ _ rfl g3 0 rfl 8 ρ rfl (there_of_arr Z64 0 8 (by omega)) size8 ?_
            have Y66 := arr_store (k := ρ) Z64 0 8 (by omega) (fun i hi => by rw [Nat.zero_add]) (fun i hi h => by omega)
            have Y67 := Z65.others (g' := g3) (fun e => ne61 e.symm) (arr 8 ρ).toList 0
            have hb68 := below_setCells (g := g3) hv39 (arr 8 ρ).toList 0 u62 hb63
            refine hK.out _ _ (HB.out _ hb68) (fun hHeld => ?_)
            clear hK K Z64 Z65 hb63
            generalize World.setCells u62 g3 0 (arr 8 ρ).toList = wy at *
            (try simp only [Act.put])
            refine wpAnyH_ready (rs := [11]) (by kernel_rfl) (by simp) ?_
            refine AllReadyH.cons rfl (fun K hK => ?_) AllReadyH.nil
            rw [if_pos (by rfl)]
            simp only [List.getElem_toArray, List.getElem_cons_succ, List.getElem_cons_zero]
            refine wp_store_arr _ _ _ rfl g4 0 rfl 8 τ rfl (there_of_arr Y67 0 8 (by omega)) size8 ?_
            have Y70 := arr_store (k := τ) Y67 0 8 (by omega) (fun i hi => by rw [Nat.zero_add]) (fun i hi h => by omega)
            have Y69 := Y66.others (g' := g4) ne61 (arr 8 τ).toList 0
            have hb71 := below_setCells (g := g4) hv58 (arr 8 τ).toList 0 wy hb68
            refine hK.out _ _ (HB.out _ hb71) (fun hHeld => ?_)
            clear hK K Y66 Y67 hb68
            generalize World.setCells wy g4 0 (arr 8 τ).toList = wz at *
            (try simp only [Act.put])
            refine reg_take 12 5 _ rfl rfl (by kernel_rfl) (by kernel_rfl) (by kernel_rfl) (fun _ _ _ h => h) (by rfl) (by intro w' hSw; (try dsimp only at hSw); simp only [List.getElem_toArray, List.getElem_cons_succ, List.getElem_cons_zero]; go_simp; rfl) (by assumption) ?_; (try simp only [Act.put, List.setIfInBounds_toArray, List.set_cons_zero, List.set_cons_succ])
            refine wpAnyH_done (by kernel_rfl) ?_ _
            go_wp2_with fail
            go_meet
            exact ⟨g3, g4, rfl, rfl, rfl, hv39, hv58, Y69, Y70, hb71⟩
      · rw [if_pos (by rfl)]
        simp only [List.getElem_toArray, List.getElem_cons_succ, List.getElem_cons_zero]
        go_simp
        have Z72 : Blk (u1.alloc (.cells (arr 8 (fun _ => 0)) 65)) u1.heap.size (arr 8 (fun _ => 0)) 65 := Blk.new u1 _ _
        have hb73 := hb2.alloc hb2.size (.cells (arr 8 (fun _ => 0)) 65)
        have hv74 := hb2.size
        refine hK.out _ _ (HB.out _ hb73) (fun hHeld => ?_)
        clear hK K hb2
        change wpAnyH _ _ _ _ _ _ _ _ (u1.alloc (.cells (arr 8 (fun _ => 0)) 65))
        change ((u1.alloc (.cells (arr 8 (fun _ => 0)) 65)).cell? ⟨s, 0, none⟩ = some (.slice a1 n c1) ∧ (u1.alloc (.cells (arr 8 (fun _ => 0)) 65)).cell? ⟨s, 1, none⟩ = some (.slice a2 m c2) ∧ (u1.alloc (.cells (arr 8 (fun _ => 0)) 65)).cell? ⟨s, 2, none⟩ = some (.int .i64 c)) at hHeld
        generalize u1.alloc (.cells (arr 8 (fun _ => 0)) 65) = w75 at *
        generalize u1.heap.size = g4 at *
        refine wpAnyH_ready (rs := [5, 8]) (by kernel_rfl) (by simp) ?_
        refine AllReadyH.cons rfl (fun K hK => ?_) (AllReadyH.cons rfl (fun K hK => ?_) AllReadyH.nil)
        · rw [if_pos (by rfl)]
          simp only [List.getElem_toArray, List.getElem_cons_succ, List.getElem_cons_zero]
          go_simp
          refine (H2.out _ hb73).mono ?_
          rintro e u76 ⟨rfl, hr⟩
          have hb77 := hb73.trans (hr.mono hb73.size)
          have Z78 := Z72.below hr Z72.lt
          clear hr hb73 Z72
          go_wp2_with fail
          refine hK.out _ _ (HB.out _ hb77) (fun hHeld => ?_)
          clear hK K
          refine wpAnyH_ready (rs := [8]) (by kernel_rfl) (by simp) ?_
          refine AllReadyH.cons rfl (fun K hK => ?_) AllReadyH.nil
          · rw [if_pos (by rfl)]
            simp only [List.getElem_toArray, List.getElem_cons_succ, List.getElem_cons_zero]
            go_simp
            have Z79 : Blk (u76.alloc (.cells (arr 8 (fun _ => 0)) 65)) u76.heap.size (arr 8 (fun _ => 0)) 65 := Blk.new u76 _ _
            have hb80 := hb77.alloc hb77.size (.cells (arr 8 (fun _ => 0)) 65)
            have hv81 := hb77.size
            have Z83 := Z78.alloc (.cells (arr 8 (fun _ => 0)) 65)
            have ne84 : u76.heap.size ≠ g4 := by have := Z78.lt; omega
            refine hK.out _ _ (HB.out _ hb80) (fun hHeld => ?_)
            clear hK K hb77 Z78
            change wpAnyH _ _ _ _ _ _ _ _ (u76.alloc (.cells (arr 8 (fun _ => 0)) 65))
            change ((u76.alloc (.cells (arr 8 (fun _ => 0)) 65)).cell? ⟨s, 0, none⟩ = some (.slice a1 n c1) ∧ (u76.alloc (.cells (arr 8 (fun _ => 0)) 65)).cell? ⟨s, 1, none⟩ = some (.slice a2 m c2) ∧ (u76.alloc (.cells (arr 8 (fun _ => 0)) 65)).cell? ⟨s, 2, none⟩ = some (.int .i64 c)) at hHeld
            generalize u76.alloc (.cells (arr 8 (fun _ => 0)) 65) = w82 at *
            generalize u76.heap.size = g3 at *
            refine wpAnyH_ready (rs := [10]) (by kernel_rfl) (by simp) ?_
            refine AllReadyH.cons rfl (fun K hK => ?_) AllReadyH.nil
            rw [if_pos (by rfl)]
            simp only [List.getElem_toArray, List.getElem_cons_succ, List.getElem_cons_zero]
            refine wp_store_arr _ _ _ rfl g3 0 rfl 8 ρ rfl (there_of_arr Z79 0 8 (by omega)) size8 ?_
            have Y85 := arr_store (k := ρ) Z79 0 8 (by omega) (fun i hi => by rw [Nat.zero_add]) (fun i hi h => by omega)
            have Y86 := Z83.others (g' := g3) (fun e => ne84 e.symm) (arr 8 ρ).toList 0
            have hb87 := below_setCells (g := g3) hv81 (arr 8 ρ).toList 0 w82 hb80
            refine hK.out _ _ (HB.out _ hb87) (fun hHeld => ?_)
            clear hK K Z79 Z83 hb80
            generalize World.setCells w82 g3 0 (arr 8 ρ).toList = wy at *
            (try simp only [Act.put])
            refine wpAnyH_ready (rs := [11]) (by kernel_rfl) (by simp) ?_
            refine AllReadyH.cons rfl (fun K hK => ?_) AllReadyH.nil
            rw [if_pos (by rfl)]
            simp only [List.getElem_toArray, List.getElem_cons_succ, List.getElem_cons_zero]
            refine wp_store_arr _ _ _ rfl g4 0 rfl 8 τ rfl (there_of_arr Y86 0 8 (by omega)) size8 ?_
            have Y89 := arr_store (k := τ) Y86 0 8 (by omega) (fun i hi => by rw [Nat.zero_add]) (fun i hi h => by omega)
            have Y88 := Y85.others (g' := g4) ne84 (arr 8 τ).toList 0
            have hb90 := below_setCells (g := g4) hv74 (arr 8 τ).toList 0 wy hb87
            refine hK.out _ _ (HB.out _ hb90) (fun hHeld => ?_)
            clear hK K Y85 Y86 hb87
            generalize World.setCells wy g4 0 (arr 8 τ).toList = wz at *
            (try simp only [Act.put])
            refine reg_take 12 5 _ rfl rfl (by kernel_rfl) (by kernel_rfl) (by kernel_rfl) (fun _ _ _ h => h) (by rfl) (by intro w' hSw; (try dsimp only at hSw); simp only [List.getElem_toArray, List.getElem_cons_succ, List.getElem_cons_zero]; go_simp; rfl) (by assumption) ?_; (try simp only [Act.put, List.setIfInBounds_toArray, List.set_cons_zero, List.set_cons_succ])
            refine wpAnyH_done (by kernel_rfl) ?_ _
            go_wp2_with fail
            go_meet
            exact ⟨g3, g4, rfl, rfl, rfl, hv81, hv74, Y88, Y89, hb90⟩
        · rw [if_pos (by rfl)]
          simp only [List.getElem_toArray, List.getElem_cons_succ, List.getElem_cons_zero]
          go_simp
          have Z91 : Blk (w75.alloc (.cells (arr 8 (fun _ => 0)) 65)) w75.heap.size (arr 8 (fun _ => 0)) 65 := Blk.new w75 _ _
          have hb92 := hb73.alloc hb73.size (.cells (arr 8 (fun _ => 0)) 65)
          have hv93 := hb73.size
          have Z95 := Z72.alloc (.cells (arr 8 (fun _ => 0)) 65)
          have ne96 : w75.heap.size ≠ g4 := by have := Z72.lt; omega
          refine hK.out _ _ (HB.out _ hb92) (fun hHeld => ?_)
          clear hK K hb73 Z72
          change wpAnyH _ _ _ _ _ _ _ _ (w75.alloc (.cells (arr 8 (fun _ => 0)) 65))
          change ((w75.alloc (.cells (arr 8 (fun _ => 0)) 65)).cell? ⟨s, 0, none⟩ = some (.slice a1 n c1) ∧ (w75.alloc (.cells (arr 8 (fun _ => 0)) 65)).cell? ⟨s, 1, none⟩ = some (.slice a2 m c2) ∧ (w75.alloc (.cells (arr 8 (fun _ => 0)) 65)).cell? ⟨s, 2, none⟩ = some (.int .i64 c)) at hHeld
          generalize w75.alloc (.cells (arr 8 (fun _ => 0)) 65) = w94 at *
          generalize w75.heap.size = g3 at *
          refine wpAnyH_ready (rs := [5]) (by kernel_rfl) (by simp) ?_
          refine AllReadyH.cons rfl (fun K hK => ?_) AllReadyH.nil
          · rw [if_pos (by rfl)]
            simp only [List.getElem_toArray, List.getElem_cons_succ, List.getElem_cons_zero]
            go_simp
            refine (H2.out _ hb92).mono ?_
            rintro e u97 ⟨rfl, hr⟩
            have hb98 := hb92.trans (hr.mono hb92.size)
            have Z99 := Z91.below hr Z91.lt
            have Z100 := Z95.below hr Z95.lt
            clear hr hb92 Z91 Z95
            go_wp2_with fail
            refine hK.out _ _ (HB.out _ hb98) (fun hHeld => ?_)
            clear hK K
            refine wpAnyH_ready (rs := [10]) (by kernel_rfl) (by simp) ?_
            refine AllReadyH.cons rfl (fun K hK => ?_) AllReadyH.nil
            rw [if_pos (by rfl)]
            simp only [List.getElem_toArray, List.getElem_cons_succ, List.getElem_cons_zero]
            refine wp_store_arr _ _ _ rfl g3 0 rfl 8 ρ rfl (there_of_arr Z99 0 8 (by omega)) size8 ?_
            have Y101 := arr_store (k := ρ) Z99 0 8 (by omega) (fun i hi => by rw [Nat.zero_add]) (fun i hi h => by omega)
            have Y102 := Z100.others (g' := g3) (fun e => ne96 e.symm) (arr 8 ρ).toList 0
            have hb103 := below_setCells (g := g3) hv93 (arr 8 ρ).toList 0 u97 hb98
            refine hK.out _ _ (HB.out _ hb103) (fun hHeld => ?_)
            clear hK K Z99 Z100 hb98
            generalize World.setCells u97 g3 0 (arr 8 ρ).toList = wy at *
            (try simp only [Act.put])
            refine wpAnyH_ready (rs := [11]) (by kernel_rfl) (by simp) ?_
            refine AllReadyH.cons rfl (fun K hK => ?_) AllReadyH.nil
            rw [if_pos (by rfl)]
            simp only [List.getElem_toArray, List.getElem_cons_succ, List.getElem_cons_zero]
            refine wp_store_arr _ _ _ rfl g4 0 rfl 8 τ rfl (there_of_arr Y102 0 8 (by omega)) size8 ?_
            have Y105 := arr_store (k := τ) Y102 0 8 (by omega) (fun i hi => by rw [Nat.zero_add]) (fun i hi h => by omega)
            have Y104 := Y101.others (g' := g4) ne96 (arr 8 τ).toList 0
            have hb106 := below_setCells (g := g4) hv74 (arr 8 τ).toList 0 wy hb103
            refine hK.out _ _ (HB.out _ hb106) (fun hHeld => ?_)
            clear hK K Y101 Y102 hb103
            generalize World.setCells wy g4 0 (arr 8 τ).toList = wz at *
            (try simp only [Act.put])
            refine reg_take 12 5 _ rfl rfl (by kernel_rfl) (by kernel_rfl) (by kernel_rfl) (fun _ _ _ h => h) (by rfl) (by intro w' hSw; (try dsimp only at hSw); simp only [List.getElem_toArray, List.getElem_cons_succ, List.getElem_cons_zero]; go_simp; rfl) (by assumption) ?_; (try simp only [Act.put, List.setIfInBounds_toArray, List.set_cons_zero, List.set_cons_succ])
            refine wpAnyH_done (by kernel_rfl) ?_ _
            go_wp2_with fail
            go_meet
            exact ⟨g3, g4, rfl, rfl, rfl, hv93, hv74, Y104, Y105, hb106⟩
    · rw [if_pos (by rfl)]
      simp only [List.getElem_toArray, List.getElem_cons_succ, List.getElem_cons_zero]
      go_simp
      have Z107 : Blk (V0.alloc (.cells (arr 8 (fun _ => 0)) 65)) V0.heap.size (arr 8 (fun _ => 0)) 65 := Blk.new V0 _ _
      have hb108 := hb0d.alloc hb0d.size (.cells (arr 8 (fun _ => 0)) 65)
      have hv109 := hb0d.size
      refine hK.out _ _ (HB.out _ hb108) (fun hHeld => ?_)
      clear hK K hb0d
      change wpAnyH _ _ _ _ _ _ _ _ (V0.alloc (.cells (arr 8 (fun _ => 0)) 65))
      change ((V0.alloc (.cells (arr 8 (fun _ => 0)) 65)).cell? ⟨s, 0, none⟩ = some (.slice a1 n c1) ∧ (V0.alloc (.cells (arr 8 (fun _ => 0)) 65)).cell? ⟨s, 1, none⟩ = some (.slice a2 m c2) ∧ (V0.alloc (.cells (arr 8 (fun _ => 0)) 65)).cell? ⟨s, 2, none⟩ = some (.int .i64 c)) at hHeld
      generalize V0.alloc (.cells (arr 8 (fun _ => 0)) 65) = w110 at *
      generalize V0.heap.size = g3 at *
      refine wpAnyH_ready (rs := [2, 9]) (by kernel_rfl) (by simp) ?_
      refine AllReadyH.cons rfl (fun K hK => ?_) (AllReadyH.cons rfl (fun K hK => ?_) AllReadyH.nil)
      · rw [if_pos (by rfl)]
        simp only [List.getElem_toArray, List.getElem_cons_succ, List.getElem_cons_zero]
        go_simp
        refine (H1.out _ hb108).mono ?_
        rintro e u111 ⟨rfl, hr⟩
        have hb112 := hb108.trans (hr.mono hb108.size)
        have Z113 := Z107.below hr Z107.lt
        clear hr hb108 Z107
        go_wp2_with fail
        refine hK.out _ _ (HB.out _ hb112) (fun hHeld => ?_)
        clear hK K
        refine wpAnyH_ready (rs := [5, 9]) (by kernel_rfl) (by simp) ?_
        refine AllReadyH.cons rfl (fun K hK => ?_) (AllReadyH.cons rfl (fun K hK => ?_) AllReadyH.nil)
        · rw [if_pos (by rfl)]
          simp only [List.getElem_toArray, List.getElem_cons_succ, List.getElem_cons_zero]
          go_simp
          refine (H2.out _ hb112).mono ?_
          rintro e u114 ⟨rfl, hr⟩
          have hb115 := hb112.trans (hr.mono hb112.size)
          have Z116 := Z113.below hr Z113.lt
          clear hr hb112 Z113
          go_wp2_with fail
          refine hK.out _ _ (HB.out _ hb115) (fun hHeld => ?_)
          clear hK K
          refine wpAnyH_ready (rs := [9]) (by kernel_rfl) (by simp) ?_
          refine AllReadyH.cons rfl (fun K hK => ?_) AllReadyH.nil
          · rw [if_pos (by rfl)]
            simp only [List.getElem_toArray, List.getElem_cons_succ, List.getElem_cons_zero]
            go_simp
            have Z117 : Blk (u114.alloc (.cells (arr 8 (fun _ => 0)) 65)) u114.heap.size (arr 8 (fun _ => 0)) 65 := Blk.new u114 _ _
            have hb118 := hb115.alloc hb115.size (.cells (arr 8 (fun _ => 0)) 65)
            have hv119 := hb115.size
            have Z121 := Z116.alloc (.cells (arr 8 (fun _ => 0)) 65)
            have ne122 : g3 ≠ u114.heap.size := by have := Z116.lt; omega
            refine hK.out _ _ (HB.out _ hb118) (fun hHeld => ?_)
            clear hK K hb115 Z116
            change wpAnyH _ _ _ _ _ _ _ _ (u114.alloc (.cells (arr 8 (fun _ => 0)) 65))
            change ((u114.alloc (.cells (arr 8 (fun _ => 0)) 65)).cell? ⟨s, 0, none⟩ = some (.slice a1 n c1) ∧ (u114.alloc (.cells (arr 8 (fun _ => 0)) 65)).cell? ⟨s, 1, none⟩ = some (.slice a2 m c2) ∧ (u114.alloc (.cells (arr 8 (fun _ => 0)) 65)).cell? ⟨s, 2, none⟩ = some (.int .i64 c)) at hHeld
            generalize u114.alloc (.cells (arr 8 (fun _ => 0)) 65) = w120 at *
            generalize u114.heap.size = g4 at *
            refine wpAnyH_ready (rs := [10]) (by kernel_rfl) (by simp) ?_
            refine AllReadyH.cons rfl (fun K hK => ?_) AllReadyH.nil
            rw [if_pos (by rfl)]
            simp only [List.getElem_toArray, List.getElem_cons_succ, List.getElem_cons_zero]
            refine wp_store_arr _ _ _ rfl g3 0 rfl 8 ρ rfl (there_of_arr Z121 0 8 (by omega)) size8 ?_
            have Y123 := arr_store (k := ρ) Z121 0 8 (by omega) (fun i hi => by rw [Nat.zero_add]) (fun i hi h => by omega)
            have Y124 := Z117.others (g' := g3) (fun e => ne122 e.symm) (arr 8 ρ).toList 0
            have hb125 := below_setCells (g := g3) hv109 (arr 8 ρ).toList 0 w120 hb118
            refine hK.out _ _ (HB.out _ hb125) (fun hHeld => ?_)
            clear hK K Z121 Z117 hb118
            generalize World.setCells w120 g3 0 (arr 8 ρ).toList = wy at *
            (try simp only [Act.put])
            refine wpAnyH_ready (rs := [11]) (by kernel_rfl) (by simp) ?_
            refine AllReadyH.cons rfl (fun K hK => ?_) AllReadyH.nil
            rw [if_pos (by rfl)]
            simp only [List.getElem_toArray, List.getElem_cons_succ, List.getElem_cons_zero]
            refine wp_store_arr _ _ _ rfl g4 0 rfl 8 τ rfl (there_of_arr Y124 0 8 (by omega)) size8 ?_
            have Y127 := arr_store (k := τ) Y124 0 8 (by omega) (fun i hi => by rw [Nat.zero_add]) (fun i hi h => by omega)
            have Y126 := Y123.others (g' := g4) ne122 (arr 8 τ).toList 0
            have hb128 := below_setCells (g := g4) hv119 (arr 8 τ).toList 0 wy hb125
            refine hK.out _ _ (HB.out _ hb128) (fun hHeld => ?_)
            clear hK K Y123 Y124 hb125
            generalize World.setCells wy g4 0 (arr 8 τ).toList = wz at *
            (try simp only [Act.put])
            refine reg_take 12 5 _ rfl rfl (by kernel_rfl) (by kernel_rfl) (by kernel_rfl) (fun _ _ _ h => h) (by rfl) (by intro w' hSw; (try dsimp only at hSw); simp only [List.getElem_toArray, List.getElem_cons_succ, List.getElem_cons_zero]; go_simp; rfl) (by assumption) ?_; (try simp only [Act.put, List.setIfInBounds_toArray, List.set_cons_zero, List.set_cons_succ])
            refine wpAnyH_done (by kernel_rfl) ?_ _
            go_wp2_with fail
            go_meet
            exact ⟨g3, g4, rfl, rfl, rfl, hv109, hv119, Y126, Y127, hb128⟩
        · rw [if_pos (by rfl)]
          simp only [List.getElem_toArray, List.getElem_cons_succ, List.getElem_cons_zero]
          go_simp
          have Z129 : Blk (u111.alloc (.cells (arr 8 (fun _ => 0)) 65)) u111.heap.size (arr 8 (fun _ => 0)) 65 := Blk.new u111 _ _
          have hb130 := hb112.alloc hb112.size (.cells (arr 8 (fun _ => 0)) 65)
          have hv131 := hb112.size
          have Z133 := Z113.alloc (.cells (arr 8 (fun _ => 0)) 65)
          have ne134 : g3 ≠ u111.heap.size := by have := Z113.lt; omega
          refine hK.out _ _ (HB.out _ hb130) (fun hHeld => ?_)
          clear hK K hb112 Z113
          change wpAnyH _ _ _ _ _ _ _ _ (u111.alloc (.cells (arr 8 (fun _ => 0)) 65))
          change ((u111.alloc (.cells (arr 8 (fun _ => 0)) 65)).cell? ⟨s, 0, none⟩ = some (.slice a1 n c1) ∧ (u111.alloc (.cells (arr 8 (fun _ => 0)) 65)).cell? ⟨s, 1, none⟩ = some (.slice a2 m c2) ∧ (u111.alloc (.cells (arr 8 (fun _ => 0)) 65)).cell? ⟨s, 2, none⟩ = some (.int .i64 c)) at hHeld
          generalize u111.alloc (.cells (arr 8 (fun _ => 0)) 65) = w132 at *
          generalize u111.heap.size = g4 at *
          refine wpAnyH_ready (rs := [5]) (by kernel_rfl) (by simp) ?_
          refine AllReadyH.cons rfl (fun K hK => ?_) AllReadyH.nil
          · rw [if_pos (by rfl)]
            simp only [List.getElem_toArray, List.getElem_cons_succ, List.getElem_cons_zero]
            go_simp
            refine (H2.out _ hb130).mono ?_
            rintro e u135 ⟨rfl, hr⟩
            have hb136 := hb130.trans (hr.mono hb130.size)
            have Z137 := Z133.below hr Z133.lt
            have Z138 := Z129.below hr Z129.lt
            clear hr hb130 Z133 Z129
            go_wp2_with fail
            refine hK.out _ _ (HB.out _ hb136) (fun hHeld => ?_)
            clear hK K
            refine wpAnyH_ready (rs := [10]) (by kernel_rfl) (by simp) ?_
            refine AllReadyH.cons rfl (fun K hK => ?_) AllReadyH.nil
            rw [if_pos (by rfl)]
            simp only [List.getElem_toArray, List.getElem_cons_succ, List.getElem_cons_zero]
            refine wp_store_arr _ _ _ rfl g3 0 rfl 8 ρ rfl (there_of_arr Z137 0 8 (by omega)) size8 ?_
            have Y139 := arr_store (k := ρ) Z137 0 8 (by omega) (fun i hi => by rw [Nat.zero_add]) (fun i hi h => by omega)
            have Y140 := Z138.others (g' := g3) (fun e => ne134 e.symm) (arr 8 ρ).toList 0
            have hb141 := below_setCells (g := g3) hv109 (arr 8 ρ).toList 0 u135 hb136
            refine hK.out _ _ (HB.out _ hb141) (fun hHeld => ?_)
            clear hK K Z137 Z138 hb136
            generalize World.setCells u135 g3 0 (arr 8 ρ).toList = wy at *
            (try simp only [Act.put])
            refine wpAnyH_ready (rs := [11]) (by kernel_rfl) (by simp) ?_
            refine AllReadyH.cons rfl (fun K hK => ?_) AllReadyH.nil
            rw [if_pos (by rfl)]
            simp only [List.getElem_toArray, List.getElem_cons_succ, List.getElem_cons_zero]
            refine wp_store_arr _ _ _ rfl g4 0 rfl 8 τ rfl (there_of_arr Y140 0 8 (by omega)) size8 ?_
            have Y143 := arr_store (k := τ) Y140 0 8 (by omega) (fun i hi => by rw [Nat.zero_add]) (fun i hi h => by omega)
            have Y142 := Y139.others (g' := g4) ne134 (arr 8 τ).toList 0
            have hb144 := below_setCells (g := g4) hv131 (arr 8 τ).toList 0 wy hb141
            refine hK.out _ _ (HB.out _ hb144) (fun hHeld => ?_)
            clear hK K Y139 Y140 hb141
            generalize World.setCells wy g4 0 (arr 8 τ).toList = wz at *
            (try simp only [Act.put])
            refine reg_take 12 5 _ rfl rfl (by kernel_rfl) (by kernel_rfl) (by kernel_rfl) (fun _ _ _ h => h) (by rfl) (by intro w' hSw; (try dsimp only at hSw); simp only [List.getElem_toArray, List.getElem_cons_succ, List.getElem_cons_zero]; go_simp; rfl) (by assumption) ?_; (try simp only [Act.put, List.setIfInBounds_toArray, List.set_cons_zero, List.set_cons_succ])
            refine wpAnyH_done (by kernel_rfl) ?_ _
            go_wp2_with fail
            go_meet
            exact ⟨g3, g4, rfl, rfl, rfl, hv109, hv131, Y142, Y143, hb144⟩
      · rw [if_pos (by rfl)]
        simp only [List.getElem_toArray, List.getElem_cons_succ, List.getElem_cons_zero]
        go_simp
        have Z145 : Blk (w110.alloc (.cells (arr 8 (fun _ => 0)) 65)) w110.heap.size (arr 8 (fun _ => 0)) 65 := Blk.new w110 _ _
        have hb146 := hb108.alloc hb108.size (.cells (arr 8 (fun _ => 0)) 65)
        have hv147 := hb108.size
        have Z149 := Z107.alloc (.cells (arr 8 (fun _ => 0)) 65)
        have ne150 : g3 ≠ w110.heap.size := by have := Z107.lt; omega
        refine hK.out _ _ (HB.out _ hb146) (fun hHeld => ?_)
        clear hK K hb108 Z107
        change wpAnyH _ _ _ _ _ _ _ _ (w110.alloc (.cells (arr 8 (fun _ => 0)) 65))
        change ((w110.alloc (.cells (arr 8 (fun _ => 0)) 65)).cell? ⟨s, 0, none⟩ = some (.slice a1 n c1) ∧ (w110.alloc (.cells (arr 8 (fun _ => 0)) 65)).cell? ⟨s, 1, none⟩ = some (.slice a2 m c2) ∧ (w110.alloc (.cells (arr 8 (fun _ => 0)) 65)).cell? ⟨s, 2, none⟩ = some (.int .i64 c)) at hHeld
        generalize w110.alloc (.cells (arr 8 (fun _ => 0)) 65) = w148 at *
        generalize w110.heap.size = g4 at *
        refine wpAnyH_ready (rs := [2]) (by kernel_rfl) (by simp) ?_
        refine AllReadyH.cons rfl (fun K hK => ?_) AllReadyH.nil
        · rw [if_pos (by rfl)]
          simp only [List.getElem_toArray, List.getElem_cons_succ, List.getElem_cons_zero]
          go_simp
          refine (H1.out _ hb146).mono ?_
          rintro e u151 ⟨rfl, hr⟩
          have hb152 := hb146.trans (hr.mono hb146.size)
          have Z153 := Z149.below hr Z149.lt
          have Z154 := Z145.below hr Z145.lt
          clear hr hb146 Z149 Z145
          go_wp2_with fail
          refine hK.out _ _ (HB.out _ hb152) (fun hHeld => ?_)
          clear hK K
          refine wpAnyH_ready (rs := [5]) (by kernel_rfl) (by simp) ?_
          refine AllReadyH.cons rfl (fun K hK => ?_) AllReadyH.nil
          · rw [if_pos (by rfl)]
            simp only [List.getElem_toArray, List.getElem_cons_succ, List.getElem_cons_zero]
            go_simp
            refine (H2.out _ hb152).mono ?_
            rintro e u155 ⟨rfl, hr⟩
            have hb156 := hb152.trans (hr.mono hb152.size)
            have Z157 := Z153.below hr Z153.lt
            have Z158 := Z154.below hr Z154.lt
            clear hr hb152 Z153 Z154
            go_wp2_with fail
            refine hK.out _ _ (HB.out _ hb156) (fun hHeld => ?_)
            clear hK K
            refine wpAnyH_ready (rs := [10]) (by kernel_rfl) (by simp) ?_
            refine AllReadyH.cons rfl (fun K hK => ?_) AllReadyH.nil
            rw [if_pos (by rfl)]
            simp only [List.getElem_toArray, List.getElem_cons_succ, List.getElem_cons_zero]
            refine wp_store_arr _ _ _ rfl g3 0 rfl 8 ρ rfl (there_of_arr Z157 0 8 (by omega)) size8 ?_
            have Y159 := arr_store (k := ρ) Z157 0 8 (by omega) (fun i hi => by rw [Nat.zero_add]) (fun i hi h => by omega)
            have Y160 := Z158.others (g' := g3) (fun e => ne150 e.symm) (arr 8 ρ).toList 0
            have hb161 := below_setCells (g := g3) hv109 (arr 8 ρ).toList 0 u155 hb156
            refine hK.out _ _ (HB.out _ hb161) (fun hHeld => ?_)
            clear hK K Z157 Z158 hb156
            generalize World.setCells u155 g3 0 (arr 8 ρ).toList = wy at *
            (try simp only [Act.put])
            refine wpAnyH_ready (rs := [11]) (by kernel_rfl) (by simp) ?_
            refine AllReadyH.cons rfl (fun K hK => ?_) AllReadyH.nil
            rw [if_pos (by rfl)]
            simp only [List.getElem_toArray, List.getElem_cons_succ, List.getElem_cons_zero]
            refine wp_store_arr _ _ _ rfl g4 0 rfl 8 τ rfl (there_of_arr Y160 0 8 (by omega)) size8 ?_
            have Y163 := arr_store (k := τ) Y160 0 8 (by omega) (fun i hi => by rw [Nat.zero_add]) (fun i hi h => by omega)
            have Y162 := Y159.others (g' := g4) ne150 (arr 8 τ).toList 0
            have hb164 := below_setCells (g := g4) hv147 (arr 8 τ).toList 0 wy hb161
            refine hK.out _ _ (HB.out _ hb164) (fun hHeld => ?_)
            clear hK K Y159 Y160 hb161
            generalize World.setCells wy g4 0 (arr 8 τ).toList = wz at *
            (try simp only [Act.put])
            refine reg_take 12 5 _ rfl rfl (by kernel_rfl) (by kernel_rfl) (by kernel_rfl) (fun _ _ _ h => h) (by rfl) (by intro w' hSw; (try dsimp only at hSw); simp only [List.getElem_toArray, List.getElem_cons_succ, List.getElem_cons_zero]; go_simp; rfl) (by assumption) ?_; (try simp only [Act.put, List.setIfInBounds_toArray, List.set_cons_zero, List.set_cons_succ])
            refine wpAnyH_done (by kernel_rfl) ?_ _
            go_wp2_with fail
            go_meet
            exact ⟨g3, g4, rfl, rfl, rfl, hv109, hv147, Y162, Y163, hb164⟩
    · rw [if_pos (by rfl)]
      simp only [List.getElem_toArray, List.getElem_cons_succ, List.getElem_cons_zero]
      go_simp
      have Z165 : Blk (V0.alloc (.cells (arr 8 (fun _ => 0)) 65)) V0.heap.size (arr 8 (fun _ => 0)) 65 := Blk.new V0 _ _
      have hb166 := hb0d.alloc hb0d.size (.cells (arr 8 (fun _ => 0)) 65)
      have hv167 := hb0d.size
      refine hK.out _ _ (HB.out _ hb166) (fun hHeld => ?_)
      clear hK K hb0d
      change wpAnyH _ _ _ _ _ _ _ _ (V0.alloc (.cells (arr 8 (fun _ => 0)) 65))
      change ((V0.alloc (.cells (arr 8 (fun _ => 0)) 65)).cell? ⟨s, 0, none⟩ = some (.slice a1 n c1) ∧ (V0.alloc (.cells (arr 8 (fun _ => 0)) 65)).cell? ⟨s, 1, none⟩ = some (.slice a2 m c2) ∧ (V0.alloc (.cells (arr 8 (fun _ => 0)) 65)).cell? ⟨s, 2, none⟩ = some (.int .i64 c)) at hHeld
      generalize V0.alloc (.cells (arr 8 (fun _ => 0)) 65) = w168 at *
      generalize V0.heap.size = g4 at *
      refine wpAnyH_ready (rs := [2, 8]) (by kernel_rfl) (by simp) ?_
      refine AllReadyH.cons rfl (fun K hK => ?_) (AllReadyH.cons rfl (fun K hK => ?_) AllReadyH.nil)
      · rw [if_pos (by rfl)]
        simp only [List.getElem_toArray, List.getElem_cons_succ, List.getElem_cons_zero]
        go_simp
        refine (H1.out _ hb166).mono ?_
        rintro e u169 ⟨rfl, hr⟩
        have hb170 := hb166.trans (hr.mono hb166.size)
        have Z171 := Z165.below hr Z165.lt
        clear hr hb166 Z165
        go_wp2_with fail
        refine hK.out _ _ (HB.out _ hb170) (fun hHeld => ?_)
        clear hK K
        refine wpAnyH_ready (rs := [5, 8]) (by kernel_rfl) (by simp) ?_
        refine AllReadyH.cons rfl (fun K hK => ?_) (AllReadyH.cons rfl (fun K hK => ?_) AllReadyH.nil)
        · rw [if_pos (by rfl)]
          simp only [List.getElem_toArray, List.getElem_cons_succ, List.getElem_cons_zero]
          go_simp
          refine (H2.out _ hb170).mono ?_
          rintro e u172 ⟨rfl, hr⟩
          have hb173 := hb170.trans (hr.mono hb170.size)
          have Z174 := Z171.below hr Z171.lt
          clear hr hb170 Z171
          go_wp2_with fail
          refine hK.out _ _ (HB.out _ hb173) (fun hHeld => ?_)
          clear hK K
          refine wpAnyH_ready (rs := [8]) (by kernel_rfl) (by simp) ?_
          refine AllReadyH.cons rfl (fun K hK => ?_) AllReadyH.nil
          · rw [if_pos (by rfl)]
            simp only [List.getElem_toArray, List.getElem_cons_succ, List.getElem_cons_zero]
            go_simp
            have Z175 : Blk (u172.alloc (.cells (arr 8 (fun _ => 0)) 65)) u172.heap.size (arr 8 (fun _ => 0)) 65 := Blk.new u172 _ _
            have hb176 := hb173.alloc hb173.size (.cells (arr 8 (fun _ => 0)) 65)
            have hv177 := hb173.size
            have Z179 := Z174.alloc (.cells (arr 8 (fun _ => 0)) 65)
            have ne180 : u172.heap.size ≠ g4 := by have := Z174.lt; omega
            refine hK.out _ _ (HB.out _ hb176) (fun hHeld => ?_)
            clear hK K hb173 Z174
            change wpAnyH _ _ _ _ _ _ _ _ (u172.alloc (.cells (arr 8 (fun _ => 0)) 65))
            change ((u172.alloc (.cells (arr 8 (fun _ => 0)) 65)).cell? ⟨s, 0, none⟩ = some (.slice a1 n c1) ∧ (u172.alloc (.cells (arr 8 (fun _ => 0)) 65)).cell? ⟨s, 1, none⟩ = some (.slice a2 m c2) ∧ (u172.alloc (.cells (arr 8 (fun _ => 0)) 65)).cell? ⟨s, 2, none⟩ = some (.int .i64 c)) at hHeld
            generalize u172.alloc (.cells (arr 8 (fun _ => 0)) 65) = w178 at *
            generalize u172.heap.size = g3 at *
            refine wpAnyH_ready (rs := [10]) (by kernel_rfl) (by simp) ?_
            refine AllReadyH.cons rfl (fun K hK => ?_) AllReadyH.nil
            rw [if_pos (by rfl)]
            simp only [List.getElem_toArray, List.getElem_cons_succ, List.getElem_cons_zero]
            refine wp_store_arr _ _ _ rfl g3 0 rfl 8 ρ rfl (there_of_arr Z175 0 8 (by omega)) size8 ?_
            have Y181 := arr_store (k := ρ) Z175 0 8 (by omega) (fun i hi => by rw [Nat.zero_add]) (fun i hi h => by omega)
            have Y182 := Z179.others (g' := g3) (fun e => ne180 e.symm) (arr 8 ρ).toList 0
            have hb183 := below_setCells (g := g3) hv177 (arr 8 ρ).toList 0 w178 hb176
            refine hK.out _ _ (HB.out _ hb183) (fun hHeld => ?_)
            clear hK K Z175 Z179 hb176
            generalize World.setCells w178 g3 0 (arr 8 ρ).toList = wy at *
            (try simp only [Act.put])
            refine wpAnyH_ready (rs := [11]) (by kernel_rfl) (by simp) ?_
            refine AllReadyH.cons rfl (fun K hK => ?_) AllReadyH.nil
            rw [if_pos (by rfl)]
            simp only [List.getElem_toArray, List.getElem_cons_succ, List.getElem_cons_zero]
            refine wp_store_arr _ _ _ rfl g4 0 rfl 8 τ rfl (there_of_arr Y182 0 8 (by omega)) size8 ?_
            have Y185 := arr_store (k := τ) Y182 0 8 (by omega) (fun i hi => by rw [Nat.zero_add]) (fun i hi h => by omega)
            have Y184 := Y181.others (g' := g4) ne180 (arr 8 τ).toList 0
            have hb186 := below_setCells (g := g4) hv167 (arr 8 τ).toList 0 wy hb183
            refine hK.out _ _ (HB.out _ hb186) (fun hHeld => ?_)
            clear hK K Y181 Y182 hb183
            generalize World.setCells wy g4 0 (arr 8 τ).toList = wz at *
            (try simp only [Act.put])
            refine reg_take 12 5 _ rfl rfl (by kernel_rfl) (by kernel_rfl) (by kernel_rfl) (fun _ _ _ h => h) (by rfl) (by intro w' hSw; (try dsimp only at hSw); simp only [List.getElem_toArray, List.getElem_cons_succ, List.getElem_cons_zero]; go_simp; rfl) (by assumption) ?_; (try simp only [Act.put, List.setIfInBounds_toArray, List.set_cons_zero, List.set_cons_succ])
            refine wpAnyH_done (by kernel_rfl) ?_ _
            go_wp2_with fail
            go_meet
            exact ⟨g3, g4, rfl, rfl, rfl, hv177, hv167, Y184, Y185, hb186⟩
        · rw [if_pos (by rfl)]
          simp only [List.getElem_toArray, List.getElem_cons_succ, List.getElem_cons_zero]
          go_simp
          have Z187 : Blk (u169.alloc (.cells (arr 8 (fun _ => 0)) 65)) u169.heap.size (arr 8 (fun _ => 0)) 65 := Blk.new u169 _ _
          have hb188 := hb170.alloc hb170.size (.cells (arr 8 (fun _ => 0)) 65)
          have hv189 := hb170.size
          have Z191 := Z171.alloc (.cells (arr 8 (fun _ => 0)) 65)
          have ne192 : u169.heap.size ≠ g4 := by have := Z171.lt; omega
          refine hK.out _ _ (HB.out _ hb188) (fun hHeld => ?_)
          clear hK K hb170 Z171
          change wpAnyH _ _ _ _ _ _ _ _ (u169.alloc (.cells (arr 8 (fun _ => 0)) 65))
          change ((u169.alloc (.cells (arr 8 (fun _ => 0)) 65)).cell? ⟨s, 0, none⟩ = some (.slice a1 n c1) ∧ (u169.alloc (.cells (arr 8 (fun _ => 0)) 65)).cell? ⟨s, 1, none⟩ = some (.slice a2 m c2) ∧ (u169.alloc (.cells (arr 8 (fun _ => 0)) 65)).cell? ⟨s, 2, none⟩ = some (.int .i64 c)) at hHeld
          generalize u169.alloc (.cells (arr 8 (fun _ => 0)) 65) = w190 at *
          generalize u169.heap.size = g3 at *
          refine wpAnyH_ready (rs := [5]) (by kernel_rfl) (by simp) ?_
          refine AllReadyH.cons rfl (fun K hK => ?_) AllReadyH.nil
          · rw [if_pos (by rfl)]
            simp only [List.getElem_toArray, List.getElem_cons_succ, List.getElem_cons_zero]
            go_simp
            refine (H2.out _ hb188).mono ?_
            rintro e u193 ⟨rfl, hr⟩
            have hb194 := hb188.trans (hr.mono hb188.size)
            have Z195 := Z187.below hr Z187.lt
            have Z196 := Z191.below hr Z191.lt
            clear hr hb188 Z187 Z191
            go_wp2_with fail
            refine hK.out _ _ (HB.out _ hb194) (fun hHeld => ?_)
            clear hK K
            refine wpAnyH_ready (rs := [10]) (by kernel_rfl) (by simp) ?_
            refine AllReadyH.cons rfl (fun K hK => ?_) AllReadyH.nil
            rw [if_pos (by rfl)]
            simp only [List.getElem_toArray, List.getElem_cons_succ, List.getElem_cons_zero]
            refine wp_store_arr _ _ _ rfl g3 0 rfl 8 ρ rfl (there_of_arr Z195 0 8 (by omega)) size8 ?_
            have Y197 := arr_store (k := ρ) Z195 0 8 (by omega) (fun i hi => by rw [Nat.zero_add]) (fun i hi h => by omega)
            have Y198 := Z196.others (g' := g3) (fun e => ne192 e.symm) (arr 8 ρ).toList 0
            have hb199 := below_setCells (g := g3) hv189 (arr 8 ρ).toList 0 u193 hb194
            refine hK.out _ _ (HB.out _ hb199) (fun hHeld => ?_)
            clear hK K Z195 Z196 hb194
            generalize World.setCells u193 g3 0 (arr 8 ρ).toList = wy at *
            (try simp only [Act.put])
            refine wpAnyH_ready (rs := [11]) (by kernel_rfl) (by simp) ?_
            refine AllReadyH.cons rfl (fun K hK => ?_) AllReadyH.nil
            rw [if_pos (by rfl)]
            simp only [List.getElem_toArray, List.getElem_cons_succ, List.getElem_cons_zero]
            refine wp_store_arr _ _ _ rfl g4 0 rfl 8 τ rfl (there_of_arr Y198 0 8 (by omega)) size8 ?_
            have Y201 := arr_store (k := τ) Y198 0 8 (by omega) (fun i hi => by rw [Nat.zero_add]) (fun i hi h => by omega)
            have Y200 := Y197.others (g' := g4) ne192 (arr 8 τ).toList 0
            have hb202 := below_setCells (g := g4) hv167 (arr 8 τ).toList 0 wy hb199
            refine hK.out _ _ (HB.out _ hb202) (fun hHeld => ?_)
            clear hK K Y197 Y198 hb199
            generalize World.setCells wy g4 0 (arr 8 τ).toList = wz at *
            (try simp only [Act.put])
            refine reg_take 12 5 _ rfl rfl (by kernel_rfl) (by kernel_rfl) (by kernel_rfl) (fun _ _ _ h => h) (by rfl) (by intro w' hSw; (try dsimp only at hSw); simp only [List.getElem_toArray, List.getElem_cons_succ, List.getElem_cons_zero]; go_simp; rfl) (by assumption) ?_; (try simp only [Act.put, List.setIfInBounds_toArray, List.set_cons_zero, List.set_cons_succ])
            refine wpAnyH_done (by kernel_rfl) ?_ _
            go_wp2_with fail
            go_meet
            exact ⟨g3, g4, rfl, rfl, rfl, hv189, hv167, Y200, Y201, hb202⟩
      · rw [if_pos (by rfl)]
        simp only [List.getElem_toArray, List.getElem_cons_succ, List.getElem_cons_zero]
        go_simp
        have Z203 : Blk (w168.alloc (.cells (arr 8 (fun _ => 0)) 65)) w168.heap.size (arr 8 (fun _ => 0)) 65 := Blk.new w168 _ _
        have hb204 := hb166.alloc hb166.size (.cells (arr 8 (fun _ => 0)) 65)
        have hv205 := hb166.size
        have Z207 := Z165.alloc (.cells (arr 8 (fun _ => 0)) 65)
        have ne208 : w168.heap.size ≠ g4 := by have := Z165.lt; omega
        refine hK.out _ _ (HB.out _ hb204) (fun hHeld => ?_)
        clear hK K hb166 Z165
        change wpAnyH _ _ _ _ _ _ _ _ (w168.alloc (.cells (arr 8 (fun _ => 0)) 65))
        change ((w168.alloc (.cells (arr 8 (fun _ => 0)) 65)).cell? ⟨s, 0, none⟩ = some (.slice a1 n c1) ∧ (w168.alloc (.cells (arr 8 (fun _ => 0)) 65)).cell? ⟨s, 1, none⟩ = some (.slice a2 m c2) ∧ (w168.alloc (.cells (arr 8 (fun _ => 0)) 65)).cell? ⟨s, 2, none⟩ = some (.int .i64 c)) at hHeld
        generalize w168.alloc (.cells (arr 8 (fun _ => 0)) 65) = w206 at *
        generalize w168.heap.size = g3 at *
        refine wpAnyH_ready (rs := [2]) (by kernel_rfl) (by simp) ?_
        refine AllReadyH.cons rfl (fun K hK => ?_) AllReadyH.nil
        · rw [if_pos (by rfl)]
          simp only [List.getElem_toArray, List.getElem_cons_succ, List.getElem_cons_zero]
          go_simp
          refine (H1.out _ hb204).mono ?_
          rintro e u209 ⟨rfl, hr⟩
          have hb210 := hb204.trans (hr.mono hb204.size)
          have Z211 := Z203.below hr Z203.lt
          have Z212 := Z207.below hr Z207.lt
          clear hr hb204 Z203 Z207
          go_wp2_with fail
          refine hK.out _ _ (HB.out _ hb210) (fun hHeld => ?_)
          clear hK K
          refine wpAnyH_ready (rs := [5]) (by kernel_rfl) (by simp) ?_
          refine AllReadyH.cons rfl (fun K hK => ?_) AllReadyH.nil
          · rw [if_pos (by rfl)]
            simp only [List.getElem_toArray, List.getElem_cons_succ, List.getElem_cons_zero]
            go_simp
            refine (H2.out _ hb210).mono ?_
            rintro e u213 ⟨rfl, hr⟩
            have hb214 := hb210.trans (hr.mono hb210.size)
            have Z215 := Z211.below hr Z211.lt
            have Z216 := Z212.below hr Z212.lt
            clear hr hb210 Z211 Z212
            go_wp2_with fail
            refine hK.out _ _ (HB.out _ hb214) (fun hHeld => ?_)
            clear hK K
            refine wpAnyH_ready (rs := [10]) (by kernel_rfl) (by simp) ?_
            refine AllReadyH.cons rfl (fun K hK => ?_) AllReadyH.nil
            rw [if_pos (by rfl)]
            simp only [List.getElem_toArray, List.getElem_cons_succ, List.getElem_cons_zero]
            refine wp_store_arr _ _ _ rfl g3 0 rfl 8 ρ rfl (there_of_arr Z215 0 8 (by omega)) size8 ?_
            have Y217 := arr_store (k := ρ) Z215 0 8 (by omega) (fun i hi => by rw [Nat.zero_add]) (fun i hi h => by omega)
            have Y218 := Z216.others (g' := g3) (fun e => ne208 e.symm) (arr 8 ρ).toList 0
            have hb219 := below_setCells (g := g3) hv205 (arr 8 ρ).toList 0 u213 hb214
            refine hK.out _ _ (HB.out _ hb219) (fun hHeld => ?_)
            clear hK K Z215 Z216 hb214
            generalize World.setCells u213 g3 0 (arr 8 ρ).toList = wy at *
            (try simp only [Act.put])
            refine wpAnyH_ready (rs := [11]) (by kernel_rfl) (by simp) ?_
            refine AllReadyH.cons rfl (fun K hK => ?_) AllReadyH.nil
            rw [if_pos (by rfl)]
            simp only [List.getElem_toArray, List.getElem_cons_succ, List.getElem_cons_zero]
            refine wp_store_arr _ _ _ rfl g4 0 rfl 8 τ rfl (there_of_arr Y218 0 8 (by omega)) size8 ?_
            have Y221 := arr_store (k := τ) Y218 0 8 (by omega) (fun i hi => by rw [Nat.zero_add]) (fun i hi h => by omega)
            have Y220 := Y217.others (g' := g4) ne208 (arr 8 τ).toList 0
            have hb222 := below_setCells (g := g4) hv167 (arr 8 τ).toList 0 wy hb219
            refine hK.out _ _ (HB.out _ hb222) (fun hHeld => ?_)
            clear hK K Y217 Y218 hb219
            generalize World.setCells wy g4 0 (arr 8 τ).toList = wz at *
            (try simp only [Act.put])
            refine reg_take 12 5 _ rfl rfl (by kernel_rfl) (by kernel_rfl) (by kernel_rfl) (fun _ _ _ h => h) (by rfl) (by intro w' hSw; (try dsimp only at hSw); simp only [List.getElem_toArray, List.getElem_cons_succ, List.getElem_cons_zero]; go_simp; rfl) (by assumption) ?_; (try simp only [Act.put, List.setIfInBounds_toArray, List.set_cons_zero, List.set_cons_succ])
            refine wpAnyH_done (by kernel_rfl) ?_ _
            go_wp2_with fail
            go_meet
            exact ⟨g3, g4, rfl, rfl, rfl, hv205, hv167, Y220, Y221, hb222⟩
  case rest =>
    obtain ⟨g3, g4, rfl, rfl, rfl, hv3, hv4, b3, b4, hb⟩ := hcut
    have e3 := b3
    have e4 := b4
    rw [arr_eight] at e3 e4
    have HS : Hid (∀ w', Below wc.heap.size wc w' → ((w'.cell? ⟨s, 0, none⟩ = some (.slice a1 n c1) ∧ w'.cell? ⟨s, 1, none⟩ = some (.slice a2 m c2) ∧ w'.cell? ⟨s, 2, none⟩ = some (.int .i64 c)) ∧ (w'.cell? ⟨g3, 0, none⟩ = some (.int .i64 (ρ 0)) ∧ w'.cell? ⟨g3, 1, none⟩ = some (.int .i64 (ρ 1)) ∧ w'.cell? ⟨g3, 2, none⟩ = some (.int .i64 (ρ 2)) ∧ w'.cell? ⟨g3, 3, none⟩ = some (.int .i64 (ρ 3)) ∧ w'.cell? ⟨g3, 4, none⟩ = some (.int .i64 (ρ 4)) ∧ w'.cell? ⟨g3, 5, none⟩ = some (.int .i64 (ρ 5)) ∧ w'.cell? ⟨g3, 6, none⟩ = some (.int .i64 (ρ 6)) ∧ w'.cell? ⟨g3, 7, none⟩ = some (.int .i64 (ρ 7))) ∧ (w'.cell? ⟨g4, 0, none⟩ = some (.int .i64 (τ 0)) ∧ w'.cell? ⟨g4, 1, none⟩ = some (.int .i64 (τ 1)) ∧ w'.cell? ⟨g4, 2, none⟩ = some (.int .i64 (τ 2)) ∧ w'.cell? ⟨g4, 3, none⟩ = some (.int .i64 (τ 3)) ∧ w'.cell? ⟨g4, 4, none⟩ = some (.int .i64 (τ 4)) ∧ w'.cell? ⟨g4, 5, none⟩ = some (.int .i64 (τ 5)) ∧ w'.cell? ⟨g4, 6, none⟩ = some (.int .i64 (τ 6)) ∧ w'.cell? ⟨g4, 7, none⟩ = some (.int .i64 (τ 7))))) := fun w' h => ⟨HB.out w' (hb.trans (h.mono hb.size)), (Blk.eight (e3.below h e3.lt)).1, (Blk.eight (e4.below h e4.lt)).1⟩
    have K0 := HS.out wc.drew (Below.refl wc.heap.size wc).drew
    have hbD := hb.drew
    clear e3 e4 b3 b4 H1 H2
    by_cases hc : c = -1
    · have hc' : (c == -1) = true := by rw [hc]; rfl
      have HE : Hid (cornF c = 128) := by show _ = _; rw [hc]; rfl
      clear hc
      go_wp2_with fail
      go_region_held3 (fun w' => ((w'.cell? ⟨s, 0, none⟩ = some (.slice a1 n c1) ∧ w'.cell? ⟨s, 1, none⟩ = some (.slice a2 m c2) ∧ w'.cell? ⟨s, 2, none⟩ = some (.int .i64 c)) ∧ (w'.cell? ⟨g3, 0, none⟩ = some (.int .i64 (ρ 0)) ∧ w'.cell? ⟨g3, 1, none⟩ = some (.int .i64 (ρ 1)) ∧ w'.cell? ⟨g3, 2, none⟩ = some (.int .i64 (ρ 2)) ∧ w'.cell? ⟨g3, 3, none⟩ = some (.int .i64 (ρ 3)) ∧ w'.cell? ⟨g3, 4, none⟩ = some (.int .i64 (ρ 4)) ∧ w'.cell? ⟨g3, 5, none⟩ = some (.int .i64 (ρ 5)) ∧ w'.cell? ⟨g3, 6, none⟩ = some (.int .i64 (ρ 6)) ∧ w'.cell? ⟨g3, 7, none⟩ = some (.int .i64 (ρ 7))) ∧ (w'.cell? ⟨g4, 0, none⟩ = some (.int .i64 (τ 0)) ∧ w'.cell? ⟨g4, 1, none⟩ = some (.int .i64 (τ 1)) ∧ w'.cell? ⟨g4, 2, none⟩ = some (.int .i64 (τ 2)) ∧ w'.cell? ⟨g4, 3, none⟩ = some (.int .i64 (τ 3)) ∧ w'.cell? ⟨g4, 4, none⟩ = some (.int .i64 (τ 4)) ∧ w'.cell? ⟨g4, 5, none⟩ = some (.int .i64 (τ 5)) ∧ w'.cell? ⟨g4, 6, none⟩ = some (.int .i64 (τ 6)) ∧ w'.cell? ⟨g4, 7, none⟩ = some (.int .i64 (τ 7)))))
        (first | (with_reducible exact K0) | (with_reducible exact K7) | (exact HS.out _ (hq7.alloc hq7.size _)))
        ((go_at_call 46; refine (H3.out _ hbD).mono ?_; rintro e w7 ⟨rfl, hr7⟩; have hq7 : Below wc.heap.size wc w7 := (Below.refl wc.heap.size wc).drew.trans hr7; have K7 := HS.out w7 hq7; clear hr7))
      have hb8 := ((hb0.trans (hb.mono (by omega))).trans (hq7.mono (by have := hb.size; omega))).alloc (by have := hb.size; have := hq7.size; omega) (.cells #[midV mid, downV ρ, acrossV τ, slopeV (slF ρ τ (128))] 51)
      have b8 := Blk.new w7 #[midV mid, downV ρ, acrossV τ, slopeV (slF ρ τ (128))] 51
      clear K0 K7
      go_wp2
      go_ret
      exact ⟨_, rfl, by rw [HE.out]; exact b8, by rw [hs]; exact hb8⟩
    · have hc' : (c == -1) = false := by rw [beq_eq_false_iff_ne]; exact hc
      have HE : Hid (cornF c = c) := by show _ = _; unfold cornF; rw [if_neg hc]
      go_wp2_with fail
      go_region_held3 (fun w' => ((w'.cell? ⟨s, 0, none⟩ = some (.slice a1 n c1) ∧ w'.cell? ⟨s, 1, none⟩ = some (.slice a2 m c2) ∧ w'.cell? ⟨s, 2, none⟩ = some (.int .i64 c)) ∧ (w'.cell? ⟨g3, 0, none⟩ = some (.int .i64 (ρ 0)) ∧ w'.cell? ⟨g3, 1, none⟩ = some (.int .i64 (ρ 1)) ∧ w'.cell? ⟨g3, 2, none⟩ = some (.int .i64 (ρ 2)) ∧ w'.cell? ⟨g3, 3, none⟩ = some (.int .i64 (ρ 3)) ∧ w'.cell? ⟨g3, 4, none⟩ = some (.int .i64 (ρ 4)) ∧ w'.cell? ⟨g3, 5, none⟩ = some (.int .i64 (ρ 5)) ∧ w'.cell? ⟨g3, 6, none⟩ = some (.int .i64 (ρ 6)) ∧ w'.cell? ⟨g3, 7, none⟩ = some (.int .i64 (ρ 7))) ∧ (w'.cell? ⟨g4, 0, none⟩ = some (.int .i64 (τ 0)) ∧ w'.cell? ⟨g4, 1, none⟩ = some (.int .i64 (τ 1)) ∧ w'.cell? ⟨g4, 2, none⟩ = some (.int .i64 (τ 2)) ∧ w'.cell? ⟨g4, 3, none⟩ = some (.int .i64 (τ 3)) ∧ w'.cell? ⟨g4, 4, none⟩ = some (.int .i64 (τ 4)) ∧ w'.cell? ⟨g4, 5, none⟩ = some (.int .i64 (τ 5)) ∧ w'.cell? ⟨g4, 6, none⟩ = some (.int .i64 (τ 6)) ∧ w'.cell? ⟨g4, 7, none⟩ = some (.int .i64 (τ 7)))))
        (first | (with_reducible exact K0) | (with_reducible exact K7) | (exact HS.out _ (hq7.alloc hq7.size _)))
        ((go_at_call 46; refine (H3.out _ hbD).mono ?_; rintro e w7 ⟨rfl, hr7⟩; have hq7 : Below wc.heap.size wc w7 := (Below.refl wc.heap.size wc).drew.trans hr7; have K7 := HS.out w7 hq7; clear hr7))
      have hb8 := ((hb0.trans (hb.mono (by omega))).trans (hq7.mono (by have := hb.size; omega))).alloc (by have := hb.size; have := hq7.size; omega) (.cells #[midV mid, downV ρ, acrossV τ, slopeV (slF ρ τ (c))] 51)
      have b8 := Blk.new w7 #[midV mid, downV ρ, acrossV τ, slopeV (slF ρ τ (c))] 51
      clear K0 K7
      go_wp2
      go_ret
      exact ⟨_, rfl, by rw [HE.out]; exact b8, by rw [hs]; exact hb8⟩
end Go.Proofs.Ytkakiollhhmmaaa
