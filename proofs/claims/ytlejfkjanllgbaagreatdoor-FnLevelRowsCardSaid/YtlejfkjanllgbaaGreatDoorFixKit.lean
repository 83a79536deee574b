/-
  What the walks of numbers in signs share.
-/
import Derived.Test.YtlejfkjanllgbaaGreatDoorRows
import Derived.Test.YtlejfkjanllgbaaGreatDoorFixMath
import Derived.WalkKit
import Derived.WalkSpells
import Derived.StillTactics
import Derived.OwnWalk
import Derived.Deep.RegionHeld3
import Derived.Deep.DrawnRows
import Derived.KernelRfl
namespace Go.Proofs.YtlejfkjanllgbaaGreatDoor
open Go.RowKit
set_option linter.unusedVariables false
set_option maxRecDepth 20000

theorem infoF : (Tryz.prog.info? 5).map (fun i => (i.zero, i.size, i.bytes)) = some (some (.int .u8 0), 1, 1) := by kernel_rfl
theorem convF {w : World} {B n : Nat} {v : Value} {zs : List Int} (h : w.ownsRow B 5 1 v n (zs.map (Value.int .u8))) :
    (convert 22 9 v).run Tryz.prog w = .ok (.string (strOfNums zs)) w := by
  have hl := h.1
  simp at hl
  rcases h.2 with ⟨rfl, rfl⟩ | ⟨g, cap, cur, rfl, _, hg, hn, _, hsz, htake⟩
  · rw [run_convert_bytes_nil w 22 5 Tryz.underlying22 Tryz.underlying5 0 0 9 Tryz.underlying9]
    have : zs = [] := List.eq_nil_of_length_eq_zero hl
    subst this; rfl
  · refine run_convert_bytes_arg w 22 5 Tryz.underlying22 Tryz.underlying5 g 0 n cap zs hl (fun i hi => ?_) 9 Tryz.underlying9
    rw [Nat.zero_add, cell_of_row w g i cur 5 (0, 0) hg]
    have hi' : i < zs.length := by omega
    have e1 : (cur.toList.take (n * 1))[i]? = (zs.map (Value.int .u8))[i]? := by rw [htake]
    rw [List.getElem?_take, if_pos (by omega)] at e1
    simp [List.getElem?_eq_getElem hi'] at e1 ⊢
    exact e1

/-- The cells when the places at and behind j (the first k) are filled. -/
def fixUp (n : Int) (w k i : Nat) : Int := if i < k then 48 + fixAt n w i else 0
def fixDn (n : Int) (w k i : Nat) : Int := if k ≤ i then 48 + fixAt n w i else 0
theorem fixUp_full (n : Int) (w : Nat) : (List.range w).map (fixUp n w w) = fixL n w := by
  unfold fixL; apply List.map_congr_left; intro i hi; simp [fixUp, List.mem_range.1 hi]
theorem fixDn_full (n : Int) (w : Nat) : (List.range w).map (fixDn n w 0) = fixL n w := by
  unfold fixL; apply List.map_congr_left; intro i hi; simp [fixDn]
theorem fixUp_set (n : Int) (w k : Nat) : (((List.range w).map (fixUp n w k)).map (Value.int .u8)).set k (.int .u8 (48 + fixAt n w k)) = ((List.range w).map (fixUp n w (k + 1))).map (Value.int .u8) := by
  rw [List.map_map, List.map_map]
  have e : Value.int .u8 (48 + fixAt n w k) = (Value.int .u8 ∘ fixUp n w (k + 1)) k := by simp [fixUp]
  rw [e]
  refine range_set w k _ _ (fun i hi => ?_)
  simp only [Function.comp, fixUp]
  by_cases h : i < k
  · simp [h, Nat.lt_succ_of_lt h]
  · simp [h, show ¬ i < k + 1 by omega]
theorem fixDn_set (n : Int) (w k : Nat) : (((List.range w).map (fixDn n w (k + 1))).map (Value.int .u8)).set k (.int .u8 (48 + fixAt n w k)) = ((List.range w).map (fixDn n w k)).map (Value.int .u8) := by
  rw [List.map_map, List.map_map]
  have e : Value.int .u8 (48 + fixAt n w k) = (Value.int .u8 ∘ fixDn n w k) k := by simp [fixDn]
  rw [e]
  refine range_set w k _ _ (fun i hi => ?_)
  simp only [Function.comp, fixDn]
  by_cases h : k + 1 ≤ i
  · simp [h, show k ≤ i by omega]
  · simp [h, show ¬ k ≤ i by omega]
theorem fixUp_zero (n : Int) (w : Nat) : (madeCells (Value.int .u8 0).cells (w * 1)).toList = ((List.range w).map (fixUp n w 0)).map (Value.int .u8) := by
  rw [made_one _ _ rfl, List.map_map]; apply List.map_congr_left; intro i hi; simp [fixUp]
theorem fixDn_zero (n : Int) (w : Nat) : (madeCells (Value.int .u8 0).cells (w * 1)).toList = ((List.range w).map (fixDn n w w)).map (Value.int .u8) := by
  rw [made_one _ _ rfl, List.map_map]; apply List.map_congr_left; intro i hi
  have := List.mem_range.1 hi
  simp [fixDn, show ¬ w ≤ i by omega]
end Go.Proofs.YtlejfkjanllgbaaGreatDoor
