/-
  Marks in a list of numbers: the walks of laws.markIntS and laws.heldIntS.
-/
import Derived.Test.YtkakiollhhmmaaaIntKit
import Derived.Deep.AppendLies
namespace Go.Proofs.Ytkakiollhhmmaaa
open Go.RowKit
set_option linter.unusedVariables false
set_option maxRecDepth 20000

/-- n numbers from k on. -/
def marksI (k : Int) (n : Nat) : List Int := (List.range n).map (fun i : Nat => k + (i : Int))
theorem marksI_length (k : Int) (n : Nat) : (marksI k n).length = n := by simp [marksI]
theorem marksI_getD (k : Int) (n i : Nat) (h : i < n) : (marksI k n).getD i 0 = k + (i : Int) := by
  simp [marksI, List.getD_eq_getElem?_getD, h]
def mkUp (xs : List Int) (k : Int) (j i : Nat) : Int := if i < j then k + (i : Int) else xs.getD i 0
theorem mkUp_zero (xs : List Int) (k : Int) : (List.range xs.length).map (mkUp xs k 0) = xs := by
  apply List.ext_getElem
  · simp
  · intro i h1 h2; simp [mkUp, h2]
theorem mkUp_full (xs : List Int) (k : Int) (n : Nat) : (List.range n).map (mkUp xs k n) = marksI k n := by
  unfold marksI; apply List.map_congr_left; intro i hi; simp [mkUp, List.mem_range.1 hi]
theorem mkUp_set (xs : List Int) (k : Int) (n j : Nat) : (((List.range n).map (mkUp xs k j)).map (Value.int .i64)).set j (.int .i64 (k + (j : Int))) = ((List.range n).map (mkUp xs k (j + 1))).map (Value.int .i64) := by
  rw [List.map_map, List.map_map]
  have e : Value.int .i64 (k + (j : Int)) = (Value.int .i64 ∘ mkUp xs k (j + 1)) j := by simp [mkUp]
  rw [e]
  refine int_range_set n j _ _ (fun i hi => ?_)
  simp only [Function.comp, mkUp]
  by_cases h : i < j
  · simp [h, Nat.lt_succ_of_lt h]
  · simp [h, show ¬ i < j + 1 by omega]

end Go.Proofs.Ytkakiollhhmmaaa
