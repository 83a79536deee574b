/-
  The walk of spec.l02Fix, and what the walks of numbers in signs share.
-/
import Derived.Test.YtcbjplmfaanmeaaRows
import Derived.Test.YtcbjplmfaanmeaaFixMath
import Derived.WalkKit
import Derived.WalkSpells
import Derived.StillTactics
import Derived.OwnWalk
import Derived.Deep.RegionHeld3
import Derived.Deep.DrawnRows
import Derived.KernelRfl
namespace Go.Proofs.Ytcbjplmfaanmeaa
open Go.RowKit
set_option linter.unusedVariables false

theorem infoF : (Try.prog.info? 5).map (fun i => (i.zero, i.size, i.bytes)) = some (some (.int .u8 0), 1, 1) := by kernel_rfl
theorem convF {w : World} {B n : Nat} {v : Value} {zs : List Int} (h : w.ownsRow B 5 1 v n (zs.map (Value.int .u8))) :
    (convert 22 9 v).run Try.prog w = .ok (.string (strOfNums zs)) w := by
  have hl := h.1
  simp at hl
  rcases h.2 with ⟨rfl, rfl⟩ | ⟨g, cap, cur, rfl, _, hg, hn, _, hsz, htake⟩
  · rw [run_convert_bytes_nil w 22 5 Try.underlying22 Try.underlying5 0 0 9 Try.underlying9]
    have : zs = [] := List.eq_nil_of_length_eq_zero hl
    subst this; rfl
  · refine run_convert_bytes_arg w 22 5 Try.underlying22 Try.underlying5 g 0 n cap zs hl (fun i hi => ?_) 9 Try.underlying9
    rw [Nat.zero_add, cell_of_row w g i cur 5 (0, 0) hg]
    have hi' : i < zs.length := by omega
    have e1 : (cur.toList.take (n * 1))[i]? = (zs.map (Value.int .u8))[i]? := by rw [htake]
    rw [List.getElem?_take, if_pos (by omega)] at e1
    simp [List.getElem?_eq_getElem hi'] at e1 ⊢
    exact e1

/-- The cells when the places at and behind j (the first k) are filled. -/
def fixUp (n : Int) (w k i : Nat) : Int := if i < k then 48 + fixAt n w i else 0
def fixDn (n : Int) (w k i : Nat) : Int := if k ≤ i then 48 + fixAt n w i else 0
theorem fixUp_full (n : Int) (w : Nat) : (List.range w).map (fixUp n w w) = fixL n w := by
  unfold fixL; apply List.map_congr_left; intro i hi; simp [fixUp, List.mem_range.1 hi]
theorem fixDn_full (n : Int) (w : Nat) : (List.range w).map (fixDn n w 0) = fixL n w := by
  unfold fixL; apply List.map_congr_left; intro i hi; simp [fixDn]
theorem fixUp_set (n : Int) (w k : Nat) : (((List.range w).map (fixUp n w k)).map (Value.int .u8)).set k (.int .u8 (48 + fixAt n w k)) = ((List.range w).map (fixUp n w (k + 1))).map (Value.int .u8) := by
  rw [List.map_map, List.map_map]
  have e : Value.int .u8 (48 + fixAt n w k) = (Value.int .u8 ∘ fixUp n w (k + 1)) k := by simp [fixUp]
  rw [e]
  refine range_set w k _ _ (fun i hi => ?_)
  simp only [Function.comp, fixUp]
  by_cases h : i < k
  · simp [h, Nat.lt_succ_of_lt h]
  · simp [h, show ¬ i < k + 1 by omega]
theorem fixDn_set (n : Int) (w k : Nat) : (((List.range w).map (fixDn n w (k + 1))).map (Value.int .u8)).set k (.int .u8 (48 + fixAt n w k)) = ((List.range w).map (fixDn n w k)).map (Value.int .u8) := by
  rw [List.map_map, List.map_map]
  have e : Value.int .u8 (48 + fixAt n w k) = (Value.int .u8 ∘ fixDn n w k) k := by simp [fixDn]
  rw [e]
  refine range_set w k _ _ (fun i hi => ?_)
  simp only [Function.comp, fixDn]
  by_cases h : k + 1 ≤ i
  · simp [h, show k ≤ i by omega]
  · simp [h, show ¬ k ≤ i by omega]
theorem fixUp_zero (n : Int) (w : Nat) : (madeCells (Value.int .u8 0).cells (w * 1)).toList = ((List.range w).map (fixUp n w 0)).map (Value.int .u8) := by
  rw [made_one _ _ rfl, List.map_map]; apply List.map_congr_left; intro i hi; simp [fixUp]
theorem fixDn_zero (n : Int) (w : Nat) : (madeCells (Value.int .u8 0).cells (w * 1)).toList = ((List.range w).map (fixDn n w w)).map (Value.int .u8) := by
  rw [made_one _ _ rfl, List.map_map]; apply List.map_congr_left; intro i hi
  have := List.mem_range.1 hi
  simp [fixDn, show ¬ w ≤ i by omega]

set_option maxHeartbeats 1000000 in
theorem specFix (n : Int) (k : Nat) (w : World) (h0 : 0 ≤ n) (h1 : n ≤ 1073741824) (hk : (k : Int) ≤ 30) :
    Calls Try.prog 22 #[.int .i64 n, .int .i64 k] w fun e w' => e = .returned (.string (strOfNums (fixL n k))) ∧ Below w.heap.size w w' := by
  obtain ⟨i0, hi0, hz0, hz1, hz2⟩ := info_parts infoF
  go_enter Try.func22, Try.ntmps22
  go_wp2_with (at_make; refine wpList_make_full _ (by rfl) _ _ 22 (by rfl) w.heap.size 5 i0 (.int .u8 0) 1 Try.underlying22 hi0 hz0 hz1 .i64 .i64 _ _ k (by rfl) (by rfl) (by rfl) (by rfl) (by rw [hz2]; omega) (by unfold maxLen; omega) (Nat.le_refl _) ?_; intro w1 hown0 hgrow0)
  have hb0 : Below w.heap.size w w1 := (Below.refl _ _).grown hgrow0 (Nat.le_refl _) (fun j hj => by cases hj)
  clear hgrow0
  rw [fixDn_zero n k] at hown0
  go_loopw [0, 6] (fun m i wr => ∃ j : Nat, j ≤ k ∧ i = .int .i64 ((j : Int) - 1) ∧ m = .int .i64 (n / 2 ^ (k - j)) ∧ wr.ownsRow w.heap.size 5 1 (.slice (some ⟨w.heap.size, 0, none⟩) k k) k (((List.range k).map (fixDn n k j)).map (Value.int .u8)) ∧ Below w.heap.size w wr)
    (fun _ i _ => ((intOf i) + 1).toNat)
  case atStart => exact ⟨k, Nat.le_refl _, rfl, by simp, hown0, hb0⟩
  case round =>
    obtain ⟨j, hj, rfl, rfl, hown, hb⟩ := hrel
    clear hown0 hb0
    obtain ⟨m, hm⟩ : ∃ m, n / 2 ^ (k - j) = m := ⟨_, rfl⟩
    have hbd := div_pow_bd n (k - j) h0
    rw [hm] at hbd ⊢
    obtain ⟨hm0, hm1⟩ := hbd
    by_cases hlt : 0 < j
    · obtain ⟨q, rfl⟩ : ∃ q, j = q + 1 := ⟨j - 1, by omega⟩
      have HM : Hid (48 + m % 2 = 48 + fixAt n k q) := by
        show _ = _
        unfold fixAt; rw [show k - 1 - q = k - (q + 1) by omega, hm]
      have HD : Hid (m / 2 = n / 2 ^ (k - q)) := by
        show _ = _
        rw [← hm, half_pow, show k - (q + 1) + 1 = k - q by omega]
      have hq : (q : Int) < (k : Int) := by omega
      have hc := hown.cellAt q (by omega)
      have hfz := hown.frozenAt q
      have hc' : wr.cell? ⟨w.heap.size, q, none⟩ = some (.int .u8 (fixDn n k (q + 1) q)) := by rw [hc]; simp [show q < k by omega]
      have hst := hown.stored q (.int .u8 (48 + m % 2))
      clear hc
      have hbs := hb.grown hst.2 hb.size (fun j hj => by cases hj; exact Nat.le_refl _)
      have hos := hst.1
      rw [HM.out, fixDn_set] at hos
      go_wp2
      go_roundw
      case rel => exact ⟨q, by omega, rfl, by rw [HD.out], by rw [HM.out]; exact hos, hbs⟩
      case measure => simp [intOf]
    · obtain rfl : j = 0 := by omega
      rw [fixDn_full] at hown
      have hconv := convF hown
      go_wp2
      go_ret
      exact ⟨rfl, hb⟩

end Go.Proofs.Ytcbjplmfaanmeaa
