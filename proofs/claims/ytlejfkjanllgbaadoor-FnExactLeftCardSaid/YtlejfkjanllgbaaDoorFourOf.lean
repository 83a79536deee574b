/-
  The walk of impl.fourSquareOf: sixteen numbers within a limit, as a square.
-/
import Derived.Test.YtlejfkjanllgbaaDoorFourA
import Derived.Test.YtlejfkjanllgbaaDoorIntAll
namespace Go.Proofs.YtlejfkjanllgbaaDoor
open Go.RowKit
set_option linter.unusedVariables false
set_option maxRecDepth 20000

/-- The first k numbers are laid. -/
def upTo (xs : List Int) (k i : Nat) : Int := if i < k then xs.getD i 0 else 0

set_option maxHeartbeats 1600000 in
theorem fourOf_no (a : Option Addr) (cap : Nat) (xs : List Int) (M : Int) (w : World) (h : Ints w a xs) (hl : xs.length ≤ maxLen) (m0 : 0 ≤ M) (m1 : M ≤ 100000000) (hno : (decide (xs.length = 16) && inB M xs) = false) :
    Calls Tryd.prog 98 #[.slice a xs.length cap, .int .i64 M] w fun e w' => (∃ F, e = .returned (.tuple #[.agg (arr 16 F), .bool false])) ∧ Below w.heap.size w w' := by
  have HA : Hid (∀ w', Below w.heap.size w w' → Calls Tryd.prog 53 #[.slice a xs.length cap, .int .i64 M] w' (fun e w'' => e = .returned (.bool (inB M xs)) ∧ Below w'.heap.size w' w'')) := fun w' hb => implAll a cap xs M w' (h.below hb (Nat.le_refl _)) hl m0 m1
  unfold maxLen at hl
  clear h
  by_cases hn : xs.length = 16
  · have hin : inB M xs = false := by simpa [hn] using hno
    rw [hin] at HA
    clear hin hno
    have hnI : (xs.length : Int) = 16 := by omega
    go_enter Tryd.func98, Tryd.ntmps98
    rw [hn]
    rw [hn] at HA
    clear hn hnI hl
    go_wp2_with (first
      | (go_at_call 53; generalize hV : World.alloc (World.alloc w _) _ = V; have B0 : Blk V w.heap.size (arr 16 (fun _ => 0)) 89 := (by rw [← hV]; exact (Blk.new w _ _).alloc _); have B1 : Blk V (w.heap.size + 1) (arr 16 (fun _ => 0)) 89 := (by rw [← hV]; exact Blk.new' _ _ (by simp)); have hb : Below w.heap.size w V := (by rw [← hV]; exact ((Below.refl _ _).alloc (Nat.le_refl _) _).alloc (by simp) _); clear hV; refine (HA.out V hb).mono ?_; rintro e w1 ⟨rfl, hc⟩; have b0 := B0.below hc B0.lt; have b1 := B1.below hc B1.lt; have hb1 := hb.trans (hc.mono hb.size); clear B0 B1 hb hc)
      | ((with_reducible refine at_load ?_); refine load_arr rfl _ _ rfl (w.heap.size + 1) 0 rfl 16 (fun _ => 0) (range_all b1) Tryd.underlying89 rfl size44 ?_; simp only [Act.put, List.setIfInBounds_toArray, List.set_cons_zero, List.set_cons_succ])
      | ((with_reducible refine at_store ?_); refine store_arr rfl _ _ _ rfl w.heap.size 0 rfl 16 (fun _ => 0) rfl (there_of_arr b0 0 16 (by omega)) size44 ?_; have HZ : Hid (Blk (w1.setCells w.heap.size 0 (arr 16 (fun _ => 0)).toList) w.heap.size (arr 16 (fun _ => 0)) 89) := (arr_store (k := fun _ => 0) b0 0 16 (by omega) (fun i hi => rfl) (fun i hi h => by omega)); have hbb := below_setCells (g := w.heap.size) (by omega) (arr 16 (fun _ => 0)).toList 0 w1 hb1; generalize World.setCells w1 w.heap.size 0 (arr 16 (fun _ => 0)).toList = Z at *))
    refine bodyPost_ret (results_cell_and rfl _ _ w.heap.size 89 _ (0, 0) _ rfl HZ.out Tryd.underlying89 rfl (by rw [arr_size]; exact size44)) rfl ?_
    exact ⟨⟨_, rfl⟩, hbb⟩
  · have hq : ((xs.length : Int) == 16) = false := by rw [beq_eq_false_iff_ne]; omega
    have hq' : (xs.length == 16) = false := by rw [beq_eq_false_iff_ne]; exact hn
    have hn' : ¬ (xs.length : Int) = 16 := by omega
    clear HA hno
    go_enter Tryd.func98, Tryd.ntmps98
    go_wp2_with (first
      | ((with_reducible refine at_load ?_); generalize hV : World.alloc (World.alloc w _) _ = V; have b0 : Blk V w.heap.size (arr 16 (fun _ => 0)) 89 := (by rw [← hV]; exact (Blk.new w _ _).alloc _); have b1 : Blk V (w.heap.size + 1) (arr 16 (fun _ => 0)) 89 := (by rw [← hV]; exact Blk.new' _ _ (by simp)); have hb1 : Below w.heap.size w V := (by rw [← hV]; exact ((Below.refl _ _).alloc (Nat.le_refl _) _).alloc (by simp) _); clear hV; refine load_arr rfl _ _ rfl (w.heap.size + 1) 0 rfl 16 (fun _ => 0) (range_all b1) Tryd.underlying89 rfl size44 ?_; simp only [Act.put, List.setIfInBounds_toArray, List.set_cons_zero, List.set_cons_succ])
      | ((with_reducible refine at_store ?_); refine store_arr rfl _ _ _ rfl w.heap.size 0 rfl 16 (fun _ => 0) rfl (there_of_arr b0 0 16 (by omega)) size44 ?_; have HZ : Hid (Blk (V.setCells w.heap.size 0 (arr 16 (fun _ => 0)).toList) w.heap.size (arr 16 (fun _ => 0)) 89) := (arr_store (k := fun _ => 0) b0 0 16 (by omega) (fun i hi => rfl) (fun i hi h => by omega)); have hbb := below_setCells (g := w.heap.size) (by omega) (arr 16 (fun _ => 0)).toList 0 V hb1; generalize World.setCells V w.heap.size 0 (arr 16 (fun _ => 0)).toList = Z at *))
    refine bodyPost_ret (results_cell_and rfl _ _ w.heap.size 89 _ (0, 0) _ rfl HZ.out Tryd.underlying89 rfl (by rw [arr_size]; exact size44)) rfl ?_
    exact ⟨⟨_, rfl⟩, hbb⟩

set_option maxHeartbeats 1600000 in
theorem fourOf_yes (a : Option Addr) (cap : Nat) (xs : List Int) (M : Int) (w : World) (h : Ints w a xs) (hl : xs.length ≤ maxLen) (m0 : 0 ≤ M) (m1 : M ≤ 100000000) (hn : xs.length = 16) (hin : inB M xs = true) :
    Calls Tryd.prog 98 #[.slice a xs.length cap, .int .i64 M] w fun e w' => e = .returned (.tuple #[.agg (arr 16 (fun i => xs.getD i 0)), .bool true]) ∧ Below w.heap.size w w' := by
  have HA : Hid (∀ w', Below w.heap.size w w' → Calls Tryd.prog 53 #[.slice a xs.length cap, .int .i64 M] w' (fun e w'' => e = .returned (.bool (inB M xs)) ∧ Below w'.heap.size w' w'')) := fun w' hb => implAll a cap xs M w' (h.below hb (Nat.le_refl _)) hl m0 m1
  have HI : Hid (∀ w' (k : Nat), Below w.heap.size w w' → k < 16 → ∃ b off : Nat, a = some ⟨b, off, none⟩ ∧ w'.cell? ⟨b, off + k, none⟩ = some (.int .i64 (xs.getD k 0))) := fun w' k hb hk => by
    rcases h.below hb (Nat.le_refl _) with h0 | ⟨b, off, ha, _, hc⟩
    · rw [h0] at hn; simp at hn
    · exact ⟨b, off, ha, hc k (by omega)⟩
  rw [hin, hn] at HA
  rw [hn]
  clear h hl hin
  go_enter Tryd.func98, Tryd.ntmps98
  clear hn
  go_wp2_with (go_at_call 53; generalize hV : World.alloc (World.alloc w _) _ = V; have B0 : Blk V w.heap.size (arr 16 (fun _ => 0)) 89 := (by rw [← hV]; exact (Blk.new w _ _).alloc _); have B1 : Blk V (w.heap.size + 1) (arr 16 (fun _ => 0)) 89 := (by rw [← hV]; exact Blk.new' _ _ (by simp)); have hb : Below w.heap.size w V := (by rw [← hV]; exact ((Below.refl _ _).alloc (Nat.le_refl _) _).alloc (by simp) _); clear hV; refine (HA.out V hb).mono ?_; rintro e w1 ⟨rfl, hc⟩; have b0 := B0.below hc B0.lt; have b1 := B1.below hc B1.lt; have hb1 := hb.trans (hc.mono hb.size); clear B0 B1 hb hc)
  clear HA
  generalize hs : w.heap.size = s at *
  go_loopw [21] (fun i wr => ∃ k : Nat, k ≤ 16 ∧ i = .int .i64 (k : Int) ∧ Blk wr s (arr 16 (fun _ => 0)) 89 ∧ Blk wr (s + 1) (arr 16 (upTo xs k)) 89 ∧ Below s w wr) (fun i _ => 16 - (intOf i).toNat)
  case atStart => exact ⟨0, by omega, rfl, b0, by rw [show arr 16 (upTo xs 0) = arr 16 (fun _ => 0) from arr_congr fun i hi => if_neg (by omega)]; exact b1, hb1⟩
  case round =>
    obtain ⟨k, hk, rfl, c0, c1, hb⟩ := hrel
    clear b0 b1 hb1
    by_cases hlt : k < 16
    · have l0 : (0 : Int) ≤ (k : Int) := by omega
      have l1 : (k : Int) < 16 := by omega
      obtain ⟨b, off, ha, d0⟩ := HI.out wr k hb hlt
      obtain ⟨x, hx⟩ : ∃ x, xs.getD k 0 = x := ⟨_, rfl⟩
      have HX : Hid (xs.getD k 0 = x) := hx
      rw [hx] at d0
      subst ha
      clear hx
      have e0 : wr.cell? ⟨s + 1, k / 4 * 4 + k % 4, none⟩ = some (.int .i64 (upTo xs k (k / 4 * 4 + k % 4))) := by rw [c1.cell, arr_get _ (by omega)]
      have f0 : wr.frozen? ⟨s + 1, k / 4 * 4 + k % 4, none⟩ = false := c1.frozen _
      have z1 := c1.set (k / 4 * 4 + k % 4) (.int .i64 x) (by rw [arr_size]; omega)
      rw [arr_set (g := upTo xs (k + 1)) x (by unfold upTo; rw [if_pos (by omega), show k / 4 * 4 + k % 4 = k by omega, HX.out]) (fun i hi => by
        unfold upTo
        by_cases c : i < k
        · rw [if_pos (by omega), if_pos c]
        · rw [if_neg (by omega), if_neg c])] at z1
      have z0 := c0.other ⟨s + 1, k / 4 * 4 + k % 4, none⟩ (.int .i64 x) (by simp)
      have zb := hb.setCell (p := ⟨s + 1, k / 4 * 4 + k % 4, none⟩) (by simp) (.int .i64 x)
      clear c0 c1 hb
      go_wp2_with fail
      refine ⟨⟨k + 1, by omega, by go_num, z0, z1, zb⟩, ?_⟩
      simp [intOf]; omega
    · obtain rfl : k = 16 := by omega
      rw [show arr 16 (upTo xs 16) = arr 16 (fun i => xs.getD i 0) from arr_congr fun i hi => if_pos hi] at c1
      obtain ⟨ρ, hρ⟩ : ∃ ρ : Nat → Int, (fun i => xs.getD i 0) = ρ := ⟨_, rfl⟩
      have HR : Hid ((fun i => xs.getD i 0) = ρ) := hρ
      rw [hρ] at c1
      clear hρ hlt hk HI
      go_wp2_with (first
        | ((with_reducible refine at_load ?_); refine load_arr rfl _ _ rfl (s + 1) 0 rfl 16 ρ (range_all c1) Tryd.underlying89 rfl size44 ?_; simp only [Act.put, List.setIfInBounds_toArray, List.set_cons_zero, List.set_cons_succ])
        | ((with_reducible refine at_store ?_); refine store_arr rfl _ _ _ rfl s 0 rfl 16 ρ rfl (there_of_arr c0 0 16 (by omega)) size44 ?_; have HZ : Hid (Blk (wr.setCells s 0 (arr 16 ρ).toList) s (arr 16 ρ) 89) := (arr_store (k := ρ) c0 0 16 (by omega) (fun i hi => by rw [Nat.zero_add]) (fun i hi h => by omega)); have hbb := below_setCells (g := s) (by omega) (arr 16 ρ).toList 0 wr hb; generalize World.setCells wr s 0 (arr 16 ρ).toList = Z at *))
      refine bodyPost_ret (results_cell_and rfl _ _ s 89 _ (0, 0) _ rfl HZ.out Tryd.underlying89 rfl (by rw [arr_size]; exact size44)) rfl ?_
      exact ⟨by rw [HR.out]; rfl, by rw [hs]; exact hbb⟩
end Go.Proofs.YtlejfkjanllgbaaDoor
