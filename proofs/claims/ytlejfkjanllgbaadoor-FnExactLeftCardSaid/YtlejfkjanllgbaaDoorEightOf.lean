/-
  The walk of impl.eightSquareOf: sixty-four numbers within a limit, as a square.
-/
import Derived.Test.YtlejfkjanllgbaaDoorEightKit
import Derived.Test.YtlejfkjanllgbaaDoorIntAll
import Derived.BigRegion
namespace Go.Proofs.YtlejfkjanllgbaaDoor
open Go.RowKit
set_option linter.unusedVariables false
set_option maxRecDepth 20000

/-- The first k numbers are laid. -/
def upTo8 (xs : List Int) (k i : Nat) : Int := if i < k then xs.getD i 0 else 0

set_option maxHeartbeats 1600000 in
theorem eightOf_no (a : Option Addr) (cap : Nat) (xs : List Int) (M : Int) (w : World) (h : Ints w a xs) (hl : xs.length ≤ maxLen) (m0 : 0 ≤ M) (m1 : M ≤ 100000000) (hno : (decide (xs.length = 64) && inB M xs) = false) :
    Calls Tryd.prog 113 #[.slice a xs.length cap, .int .i64 M] w fun e w' => (∃ F, e = .returned (.tuple #[.agg (arr 64 F), .bool false])) ∧ Below w.heap.size w w' := by
  have HA : Hid (∀ w', Below w.heap.size w w' → Calls Tryd.prog 53 #[.slice a xs.length cap, .int .i64 M] w' (fun e w'' => e = .returned (.bool (inB M xs)) ∧ Below w'.heap.size w' w'')) := fun w' hb => implAll a cap xs M w' (h.below hb (Nat.le_refl _)) hl m0 m1
  unfold maxLen at hl
  clear h
  by_cases hn : xs.length = 64
  · have hin : inB M xs = false := by simpa [hn] using hno
    rw [hin] at HA
    clear hin hno
    have hnI : (xs.length : Int) = 64 := by omega
    go_enter Tryd.func113, Tryd.ntmps113
    rw [hn]
    rw [hn] at HA
    clear hn hnI hl
    go_wp2_with (first
      | (go_at_call 53; generalize hV : World.alloc (World.alloc w _) _ = V; have B0 : Blk V w.heap.size (arr 64 (fun _ => 0)) 104 := (by rw [← hV]; exact (Blk.new w _ _).alloc _); have B1 : Blk V (w.heap.size + 1) (arr 64 (fun _ => 0)) 104 := (by rw [← hV]; exact Blk.new' _ _ (by simp)); have hb : Below w.heap.size w V := (by rw [← hV]; exact ((Below.refl _ _).alloc (Nat.le_refl _) _).alloc (by simp) _); clear hV; refine (HA.out V hb).mono ?_; rintro e w1 ⟨rfl, hc⟩; have b0 := B0.below hc B0.lt; have b1 := B1.below hc B1.lt; have hb1 := hb.trans (hc.mono hb.size); clear B0 B1 hb hc)
      | ((with_reducible refine at_load ?_); refine load_arr rfl _ _ rfl (w.heap.size + 1) 0 rfl 64 (fun _ => 0) (range_all b1) Tryd.underlying104 rfl size55 ?_; simp only [Act.put, List.setIfInBounds_toArray, List.set_cons_zero, List.set_cons_succ])
      | ((with_reducible refine at_store ?_); refine store_arr rfl _ _ _ rfl w.heap.size 0 rfl 64 (fun _ => 0) rfl (there_of_arr b0 0 64 (by omega)) size55 ?_; have HZ : Hid (Blk (w1.setCells w.heap.size 0 (arr 64 (fun _ => 0)).toList) w.heap.size (arr 64 (fun _ => 0)) 104) := (arr_store (k := fun _ => 0) b0 0 64 (by omega) (fun i hi => rfl) (fun i hi h => by omega)); have hbb := below_setCells (g := w.heap.size) (by omega) (arr 64 (fun _ => 0)).toList 0 w1 hb1; generalize World.setCells w1 w.heap.size 0 (arr 64 (fun _ => 0)).toList = Z at *))
    refine bodyPost_ret (results_cell_and rfl _ _ w.heap.size 104 _ (0, 0) _ rfl HZ.out Tryd.underlying104 rfl (by rw [arr_size]; exact size55)) rfl ?_
    exact ⟨⟨_, rfl⟩, hbb⟩
  · have hq : ((xs.length : Int) == 64) = false := by rw [beq_eq_false_iff_ne]; omega
    have hq' : (xs.length == 64) = false := by rw [beq_eq_false_iff_ne]; exact hn
    have hn' : ¬ (xs.length : Int) = 64 := by omega
    clear HA hno
    go_enter Tryd.func113, Tryd.ntmps113
    go_wp2_with (first
      | ((with_reducible refine at_load ?_); generalize hV : World.alloc (World.alloc w _) _ = V; have b0 : Blk V w.heap.size (arr 64 (fun _ => 0)) 104 := (by rw [← hV]; exact (Blk.new w _ _).alloc _); have b1 : Blk V (w.heap.size + 1) (arr 64 (fun _ => 0)) 104 := (by rw [← hV]; exact Blk.new' _ _ (by simp)); have hb1 : Below w.heap.size w V := (by rw [← hV]; exact ((Below.refl _ _).alloc (Nat.le_refl _) _).alloc (by simp) _); clear hV; refine load_arr rfl _ _ rfl (w.heap.size + 1) 0 rfl 64 (fun _ => 0) (range_all b1) Tryd.underlying104 rfl size55 ?_; simp only [Act.put, List.setIfInBounds_toArray, List.set_cons_zero, List.set_cons_succ])
      | ((with_reducible refine at_store ?_); refine store_arr rfl _ _ _ rfl w.heap.size 0 rfl 64 (fun _ => 0) rfl (there_of_arr b0 0 64 (by omega)) size55 ?_; have HZ : Hid (Blk (V.setCells w.heap.size 0 (arr 64 (fun _ => 0)).toList) w.heap.size (arr 64 (fun _ => 0)) 104) := (arr_store (k := fun _ => 0) b0 0 64 (by omega) (fun i hi => rfl) (fun i hi h => by omega)); have hbb := below_setCells (g := w.heap.size) (by omega) (arr 64 (fun _ => 0)).toList 0 V hb1; generalize World.setCells V w.heap.size 0 (arr 64 (fun _ => 0)).toList = Z at *))
    refine bodyPost_ret (results_cell_and rfl _ _ w.heap.size 104 _ (0, 0) _ rfl HZ.out Tryd.underlying104 rfl (by rw [arr_size]; exact size55)) rfl ?_
    exact ⟨⟨_, rfl⟩, hbb⟩

theorem slice_eight' (W : World) (g o : Nat) :
    (Instr.sliceAt 102 (.pointer (some ⟨g, o, none⟩)) none none none).run Tryd.prog W = .ok (.slice (some ⟨g, o, none⟩) 8 8) W := by
  have ha : Tryd.prog.arrayLen 102 = 8 := by kernel_rfl
  have he : Tryd.prog.elem 102 = 3 := by kernel_rfl
  rw [run_sliceAt_array_all W 102 ⟨g, o, none⟩ (by rw [ha, he]; exact Tryd.underlying102), he, ha, Tryd.sizeOf3]
  simp [Result.andThen, slicedAt, Addr.add]
set_option maxHeartbeats 3200000 in
theorem eightOf_yes (a : Option Addr) (cap : Nat) (xs : List Int) (M : Int) (w : World) (h : Ints w a xs) (hl : xs.length ≤ maxLen) (m0 : 0 ≤ M) (m1 : M ≤ 100000000) (hn : xs.length = 64) (hin : inB M xs = true) (hcap : 64 ≤ cap) :
    Calls Tryd.prog 113 #[.slice a xs.length cap, .int .i64 M] w fun e w' => e = .returned (.tuple #[.agg (arr 64 (fun i => xs.getD i 0)), .bool true]) ∧ Below w.heap.size w w' := by
  have HA : Hid (∀ w', Below w.heap.size w w' → Calls Tryd.prog 53 #[.slice a xs.length cap, .int .i64 M] w' (fun e w'' => e = .returned (.bool (inB M xs)) ∧ Below w'.heap.size w' w'')) := fun w' hb => implAll a cap xs M w' (h.below hb (Nat.le_refl _)) hl m0 m1
  obtain ⟨b, off, ha, HI⟩ : ∃ b off : Nat, a = some ⟨b, off, none⟩ ∧ Hid (∀ w', Below w.heap.size w w' → b < w.heap.size ∧ ∀ k, k < 64 → w'.cell? ⟨b, off + k, none⟩ = some (.int .i64 (xs.getD k 0))) := by
    rcases h with h0 | ⟨b, off, ha, hb, hc⟩
    · rw [h0] at hn; simp at hn
    · exact ⟨b, off, ha, fun w' hw => ⟨hb, fun k hk => (hw.cell (p := ⟨b, off + k, none⟩) hb).trans (hc k (by omega))⟩⟩
  rw [hin, hn] at HA
  rw [hn]
  subst ha
  clear h hl hin
  have hc64 : (64 : Int) ≤ (cap : Int) := by omega
  go_enter Tryd.func113, Tryd.ntmps113
  clear hn
  go_wp2_with (go_at_call 53; generalize hV : World.alloc (World.alloc w _) _ = V; have B0 : Blk V w.heap.size (arr 64 (fun _ => 0)) 104 := (by rw [← hV]; exact (Blk.new w _ _).alloc _); have B1 : Blk V (w.heap.size + 1) (arr 64 (fun _ => 0)) 104 := (by rw [← hV]; exact Blk.new' _ _ (by simp)); have hb : Below w.heap.size w V := (by rw [← hV]; exact ((Below.refl _ _).alloc (Nat.le_refl _) _).alloc (by simp) _); clear hV; refine (HA.out V hb).mono ?_; rintro e w1 ⟨rfl, hc⟩; have b0 := B0.below hc B0.lt; have b1 := B1.below hc B1.lt; have hb1 := hb.trans (hc.mono hb.size); clear B0 B1 hb hc)
  clear HA
  generalize hs : w.heap.size = s at *
  have hsl := slice_eight'
  go_loopw [18] (fun i wr => ∃ k : Nat, k ≤ 8 ∧ i = .int .i64 (k : Int) ∧ Blk wr s (arr 64 (fun _ => 0)) 104 ∧ Blk wr (s + 1) (arr 64 (upTo8 xs (k * 8))) 104 ∧ Below s w wr) (fun i _ => 8 - (intOf i).toNat)
  case atStart => exact ⟨0, by omega, rfl, b0, by rw [show arr 64 (upTo8 xs (0 * 8)) = arr 64 (fun _ => 0) from arr_congr fun i hi => if_neg (by omega)]; exact b1, hb1⟩
  case round =>
    obtain ⟨k, hk, rfl, c0, c1, hb⟩ := hrel
    clear b0 b1 hb1
    by_cases hlt : k < 8
    · have l0 : (0 : Int) ≤ (k : Int) := by omega
      have l1 : (k : Int) < 8 := by omega
      obtain ⟨hbs, hcl⟩ := HI.out wr hb
      have hcp : ∀ ty, (Builtin.copy_ #[24, 24] ty #[.slice (some ⟨s + 1, k * 8, none⟩) 8 8, .slice (some ⟨b, off + k * 8, none⟩) (64 - k * 8) (cap - k * 8)]).run Tryd.prog wr.drew = .ok (.int .i64 8) (wr.drew.setCells (s + 1) (k * 8) (arr 8 (fun i => xs.getD (k * 8 + i) 0)).toList) := fun ty => by
        have hth := there_of_arr c1 (k * 8) 8 (by omega)
        have := run_copy_cells (P := Tryd.prog) wr.drew 24 24 ty 3 (s + 1) (k * 8) 8 8 ⟨b, off + k * 8, none⟩ (64 - k * 8) (cap - k * 8) (arr 8 (fun i => xs.getD (k * 8 + i) 0)).toList Tryd.underlying24 (by kernel_rfl) (by rw [Array.length_toList, arr_size]; show 8 = min (64 - k * 8) 8; omega)
          (fun j v hv => by
            rw [Addr.add_mid, Nat.add_assoc]
            have hj : j < 8 := by
              have := (List.getElem?_eq_some_iff.1 hv).1
              simpa [arr] using this
            have e := hcl (k * 8 + j) (by omega)
            rw [Array.getElem?_toList, arr_get _ hj] at hv
            show wr.cell? _ = _
            rw [e, ← hv])
          (fun j hj => (hth j (by rw [Array.length_toList, arr_size] at hj; exact hj)).1) (fun j hj => (hth j (by rw [Array.length_toList, arr_size] at hj; exact hj)).2) (fun v hv => Array.all_eq_true_iff_forall_mem.1 (arr_one 8 _) v (by simpa using hv))
        rw [Array.length_toList, arr_size] at this
        exact this
      have z1 : Hid (Blk (wr.drew.setCells (s + 1) (k * 8) (arr 8 (fun i => xs.getD (k * 8 + i) 0)).toList) (s + 1) (arr 64 (upTo8 xs ((k + 1) * 8))) 104) := arr_store (w := wr.drew) c1 (k * 8) 8 (by omega) (fun i hi => by unfold upTo8; rw [if_pos (by omega)]) (fun i hi ho => by
        unfold upTo8
        by_cases c : i < k * 8
        · rw [if_pos (by omega), if_pos c]
        · rw [if_neg (by omega), if_neg c])
      have z0 : Hid (Blk (wr.drew.setCells (s + 1) (k * 8) (arr 8 (fun i => xs.getD (k * 8 + i) 0)).toList) s (arr 64 (fun _ => 0)) 104) := Blk.others (by omega) _ _ (w := wr.drew) c0
      have zb : Hid (Below s w (wr.drew.setCells (s + 1) (k * 8) (arr 8 (fun i => xs.getD (k * 8 + i) 0)).toList)) := below_setCells (by omega) _ _ _ hb.drew
      generalize (arr 8 (fun i => xs.getD (k * 8 + i) 0)).toList = L at *
      clear c0 c1 hcl
      go_wp2_with fail
      go_region
      clear hcp hsl
      generalize World.setCells wr.drew (s + 1) (k * 8) L = Z at *
      go_wp2
      refine ⟨⟨k + 1, by omega, by go_num, z0, z1, zb⟩, ?_⟩
      simp [intOf]; omega
    · obtain rfl : k = 8 := by omega
      rw [show arr 64 (upTo8 xs (8 * 8)) = arr 64 (fun i => xs.getD i 0) from arr_congr fun i hi => if_pos hi] at c1
      obtain ⟨ρ, hρ⟩ : ∃ ρ : Nat → Int, (fun i => xs.getD i 0) = ρ := ⟨_, rfl⟩
      have HR : Hid ((fun i => xs.getD i 0) = ρ) := hρ
      rw [hρ] at c1
      clear hρ hlt hk HI
      go_wp2_with (first
        | ((with_reducible refine at_load ?_); refine load_arr rfl _ _ rfl (s + 1) 0 rfl 64 ρ (range_all c1) Tryd.underlying104 rfl size55 ?_; simp only [Act.put, List.setIfInBounds_toArray, List.set_cons_zero, List.set_cons_succ])
        | ((with_reducible refine at_store ?_); refine store_arr rfl _ _ _ rfl s 0 rfl 64 ρ rfl (there_of_arr c0 0 64 (by omega)) size55 ?_; have HZ : Hid (Blk (wr.setCells s 0 (arr 64 ρ).toList) s (arr 64 ρ) 104) := (arr_store (k := ρ) c0 0 64 (by omega) (fun i hi => by rw [Nat.zero_add]) (fun i hi h => by omega)); have hbb := below_setCells (g := s) (by omega) (arr 64 ρ).toList 0 wr hb; generalize World.setCells wr s 0 (arr 64 ρ).toList = Z at *))
      refine bodyPost_ret (results_cell_and rfl _ _ s 104 _ (0, 0) _ rfl HZ.out Tryd.underlying104 rfl (by rw [arr_size]; exact size55)) rfl ?_
      exact ⟨by rw [HR.out]; rfl, by rw [hs]; exact hbb⟩
end Go.Proofs.YtlejfkjanllgbaaDoor
