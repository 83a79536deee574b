/-
  A guess, dot by dot: the walk of impl.dotsOf, over any guess whose rows are known.
-/
import Derived.Test.YtkakiollhhmmaaaGuessRows
import Derived.Test.YtkakiollhhmmaaaOwnKit
import Derived.Deep.WholeRow
namespace Go.Proofs.Ytkakiollhhmmaaa
open Go.RowKit
set_option linter.unusedVariables false
set_option maxRecDepth 20000

theorem slice_eightG (W : World) (g : Nat) :
    (Instr.sliceAt 65 (.pointer (some ⟨g, 0, none⟩)) none none none).run Try.prog W = .ok (.slice (some ⟨g, 0, none⟩) 8 8) W := by
  have ha : Try.prog.arrayLen 65 = 8 := by kernel_rfl
  have he : Try.prog.elem 65 = 3 := by kernel_rfl
  rw [run_sliceAt_array_all W 65 ⟨g, 0, none⟩ (by rw [ha, he]; exact Try.underlying65), he, ha, Try.sizeOf3]
  simp [Result.andThen, slicedAt, Addr.add]
theorem arr_listG (n : Nat) (f : Nat → Int) : (arr n f).toList = (listF n f).map (Value.int .i64) := by
  simp [arr, listF]
theorem gue_rows (ρ : Nat → Nat → Int) (k : Nat) : listF (8 * k) (fun i => ρ (i / 8) (i % 8)) ++ listF 8 (ρ k) = listF (8 * (k + 1)) (fun i => ρ (i / 8) (i % 8)) := by
  rw [show 8 * (k + 1) = 8 * k + 8 by omega, ← listF_append]
  congr 1
  exact listF_congr fun i hi => by
    show ρ k i = ρ ((8 * k + i) / 8) ((8 * k + i) % 8)
    rw [show (8 * k + i) / 8 = k by omega, show (8 * k + i) % 8 = i by omega]

set_option maxHeartbeats 1600000 in
theorem dotsOf_any (G : Value) (ρ : Nat → Nat → Int) (w : World) (hG : ∀ r : Nat, r < 8 → ∀ W, Calls Try.prog 47 #[G, .int .i64 (r : Int)] W fun e w' => e = .returned (.agg (arr 8 (ρ r))) ∧ Below W.heap.size W w') :
    Calls Try.prog 28 #[G] w fun e w' => (∃ v, e = .returned v ∧ w'.ownsRow w.heap.size 3 1 v 64 ((listF 64 (fun i => ρ (i / 8) (i % 8))).map (Value.int .i64))) ∧ Below w.heap.size w w' := by
  obtain ⟨i0, hi0, hz0, hz1, hz2⟩ := info_parts infoI
  have HG : Hid (∀ r : Nat, r < 8 → ∀ W, Calls Try.prog 47 #[G, .int .i64 (r : Int)] W fun e w' => e = .returned (.agg (arr 8 (ρ r))) ∧ Below W.heap.size W w') := hG
  clear hG
  go_enter Try.func28, Try.ntmps28
  go_wp2_with (at_make; refine wpList_make_own _ rfl _ _ 24 rfl w.heap.size 3 i0 (.int .i64 0) 1 Try.underlying24 hi0 hz0 hz1 .i64 .i64 _ 64 rfl rfl rfl (by rw [hz2]; omega) (by unfold maxLen; omega) (Nat.le_refl _) ?_; intro w1 hown0 hgrow0; have hb0 : Below w.heap.size w w1 := (Below.refl _ _).grown hgrow0 (Nat.le_refl _) (fun j hj => by cases hj); clear hgrow0)
  have hsl := slice_eightG
  go_loopw [3, 7] (fun v i wr => ∃ k : Nat, k ≤ 8 ∧ i = .int .i64 (k : Int) ∧ v = .slice (some ⟨w.heap.size, 0, none⟩) (8 * k) 64 ∧ wr.ownsRow w.heap.size 3 1 (.slice (some ⟨w.heap.size, 0, none⟩) (8 * k) 64) (8 * k) ((listF (8 * k) (fun i => ρ (i / 8) (i % 8))).map (Value.int .i64)) ∧ Below w.heap.size w wr) (fun _ i _ => 8 - (intOf i).toNat)
  case atStart => exact ⟨0, by omega, rfl, by simp, by simpa [listF] using hown0, hb0⟩
  case round =>
    obtain ⟨k, hk, rfl, rfl, hown, hb⟩ := hrel
    clear hown0 hb0
    by_cases hlt : k < 8
    · have l0 : (0 : Int) ≤ (k : Int) := by omega
      have l1 : (k : Int) < 8 := by omega
      have HC : Hid (∀ W, Calls Try.prog 47 #[G, .int .i64 (k : Int)] W fun e w' => e = .returned (.agg (arr 8 (ρ k))) ∧ Below W.heap.size W w') := HG.out k hlt
      have HL : Hid ((listF (8 * k) (fun i => ρ (i / 8) (i % 8))).map (Value.int .i64) ++ (arr 8 (ρ k)).toList = (listF (8 * (k + 1)) (fun i => ρ (i / 8) (i % 8))).map (Value.int .i64)) := by
        show _ = _
        rw [arr_listG, ← List.map_append, gue_rows]
      generalize ρ k = τ at *
      go_wp2_with fail
      refine (HC.out wr).mono ?_
      rintro e w1 ⟨rfl, hc⟩
      have hst := run_storeCells_new (P := Try.prog) w1 65 #[.int .i64 0, .int .i64 0, .int .i64 0, .int .i64 0, .int .i64 0, .int .i64 0, .int .i64 0, .int .i64 0] (arr 8 τ) (by rw [arr_size]; exact size8) (by rw [arr_size]; rfl) (arr_one _ _)
      have ho := (owned_below hown hc).alloc (.cells (arr 8 τ) 65)
      have hb1 := (hb.trans (hc.mono hb.size)).alloc (Nat.le_trans hb.size hc.size) (.cells (arr 8 τ) 65)
      have B3 : Blk (w1.alloc (.cells (arr 8 τ) 65)) w1.heap.size (arr 8 τ) 65 := Blk.new w1 _ _
      have HN : Hid (∀ j u, (arr 8 τ).toList[j]? = some u → (w1.alloc (.cells (arr 8 τ) 65)).cell? ((⟨w1.heap.size, 0, none⟩ : Addr).add j) = some u) := fun j u hu => by
        rw [Addr.add_mid, Nat.zero_add, B3.cell]
        simpa using hu
      have hgs : w.heap.size ≤ w1.heap.size := Nat.le_trans hb.size hc.size
      clear B3 hown hb hc
      go_wp2_with (at_builtin; refine wpList_append_fits _ rfl _ _ 24 rfl w.heap.size 3 i0 1 Try.underlying24 hi0 hz1 w.heap.size (8 * k) 64 _ rfl ho ⟨w1.heap.size, 0, none⟩ 8 8 (arr 8 τ).toList rfl (by simp [arr]) HN.out (fun u hu => Array.all_eq_true_iff_forall_mem.1 (arr_one 8 τ) u (by simpa using hu)) (by omega) ?_; intro w2 hown2 hg2)
      rw [HL.out] at hown2
      refine ⟨⟨k + 1, by omega, by go_num, rfl, hown2, hb1.grown hg2 hb1.size (fun j hj => by cases hj; omega)⟩, ?_⟩
      simp [intOf]; omega
    · obtain rfl : k = 8 := by omega
      go_wp2
      go_ret
      exact ⟨⟨_, rfl, hown⟩, hb⟩
end Go.Proofs.Ytkakiollhhmmaaa
