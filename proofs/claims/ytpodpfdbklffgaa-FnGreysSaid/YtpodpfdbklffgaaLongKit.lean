/-
  spec.l01Long: a text of one byte alone.
-/
import Derived.Test.YtpodpfdbklffgaaFixKit
namespace Go.Proofs.Ytpodpfdbklffgaa
open Go.RowKit
set_option linter.unusedVariables false
set_option maxRecDepth 20000

/-- The cells when the first k places are filled with c. -/
def longUp (c : Int) (k i : Nat) : Int := if i < k then c else 0
theorem longUp_full (c : Int) (n : Nat) : (List.range n).map (longUp c n) = List.replicate n c := by
  rw [List.eq_replicate_iff]
  refine ⟨by simp, fun x hx => ?_⟩
  obtain ⟨i, hi, rfl⟩ := List.mem_map.1 hx
  simp [longUp, List.mem_range.1 hi]
theorem longUp_set (c : Int) (n k : Nat) : (((List.range n).map (longUp c k)).map (Value.int .u8)).set k (.int .u8 c) = ((List.range n).map (longUp c (k + 1))).map (Value.int .u8) := by
  rw [List.map_map, List.map_map]
  have e : Value.int .u8 c = (Value.int .u8 ∘ longUp c (k + 1)) k := by simp [longUp]
  rw [e]
  refine range_set n k _ _ (fun i hi => ?_)
  simp only [Function.comp, longUp]
  by_cases h : i < k
  · simp [h, Nat.lt_succ_of_lt h]
  · simp [h, show ¬ i < k + 1 by omega]
theorem longUp_zero (c : Int) (n : Nat) : (madeCells (Value.int .u8 0).cells (n * 1)).toList = ((List.range n).map (longUp c 0)).map (Value.int .u8) := by
  rw [made_one _ _ rfl, List.map_map]; apply List.map_congr_left; intro i hi; simp [longUp]

set_option maxHeartbeats 1000000 in
theorem specLong (n : Nat) (c : Int) (w : World) (hn : (n : Int) ≤ 1000000) :
    Calls Try.prog 55 #[.int .i64 n, .int .u8 c] w fun e w' => e = .returned (.string (strOfNums (List.replicate n c))) ∧ Below w.heap.size w w' := by
  obtain ⟨i0, hi0, hz0, hz1, hz2⟩ := info_parts infoF
  go_enter Try.func55, Try.ntmps55
  go_wp2_with (at_make; refine wpList_make_full _ (by rfl) _ _ 22 (by rfl) w.heap.size 5 i0 (.int .u8 0) 1 Try.underlying22 hi0 hz0 hz1 .i64 .i64 _ _ n (by rfl) (by rfl) (by rfl) (by rfl) (by rw [hz2]; omega) (by unfold maxLen; omega) (Nat.le_refl _) ?_; intro w1 hown0 hgrow0)
  have hb0 : Below w.heap.size w w1 := (Below.refl _ _).grown hgrow0 (Nat.le_refl _) (fun j hj => by cases hj)
  clear hgrow0
  rw [longUp_zero c n] at hown0
  go_loopw [6] (fun i wr => ∃ j : Nat, j ≤ n ∧ i = .int .i64 (j : Int) ∧ wr.ownsRow w.heap.size 5 1 (.slice (some ⟨w.heap.size, 0, none⟩) n n) n (((List.range n).map (longUp c j)).map (Value.int .u8)) ∧ Below w.heap.size w wr)
    (fun i _ => n - (intOf i).toNat)
  case atStart => exact ⟨0, Nat.zero_le _, rfl, hown0, hb0⟩
  case round =>
    obtain ⟨j, hj, rfl, hown, hb⟩ := hrel
    clear hown0 hb0
    by_cases hlt : j < n
    · have hq : (j : Int) < (n : Int) := by omega
      have hc := hown.cellAt j (by omega)
      have hfz := hown.frozenAt j
      have hc' : wr.cell? ⟨w.heap.size, j, none⟩ = some (.int .u8 (longUp c j j)) := by rw [hc]; simp [hlt]
      have hst := hown.stored j (.int .u8 c)
      clear hc
      have hbs := hb.grown hst.2 hb.size (fun j hj => by cases hj; exact Nat.le_refl _)
      have hos := hst.1
      rw [longUp_set] at hos
      go_wp2
      go_roundw
      case rel => exact ⟨j + 1, by omega, by go_num, hos, hbs⟩
      case measure => simp [intOf]; omega
    · obtain rfl : j = n := by omega
      rw [longUp_full] at hown
      have hconv := convF hown
      go_wp2
      go_ret
      exact ⟨rfl, hb⟩
end Go.Proofs.Ytpodpfdbklffgaa
