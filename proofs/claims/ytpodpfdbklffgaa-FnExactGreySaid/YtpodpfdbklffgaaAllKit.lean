/-
  Whether all numbers of a list are within -M .. M: the walks of impl.allWithin and spec.l09All; the numbers of a list as a function.
-/
import Derived.Test.YtpodpfdbklffgaaIntKit
import Derived.Test.YtpodpfdbklffgaaInKit
namespace Go.Proofs.Ytpodpfdbklffgaa
open Go.RowKit
set_option linter.unusedVariables false
set_option maxRecDepth 20000

/-- The first n numbers of a function. -/
def listF (n : Nat) (f : Nat → Int) : List Int := (List.range n).map f
theorem listF_length (n : Nat) (f : Nat → Int) : (listF n f).length = n := by simp [listF]
theorem listF_get {n i : Nat} (f : Nat → Int) (h : i < n) : (listF n f).getD i 0 = f i := by
  unfold listF
  rw [List.getD_eq_getElem?_getD, List.getElem?_map, List.getElem?_range h]
  rfl
theorem listF_congr {n : Nat} {f g : Nat → Int} (h : ∀ i, i < n → f i = g i) : listF n f = listF n g := by
  unfold listF
  apply List.map_congr_left
  intro i hi
  exact h i (List.mem_range.1 hi)
theorem listF_self (xs : List Int) : listF xs.length (fun i => xs.getD i 0) = xs := by
  apply List.ext_getElem
  · simp [listF]
  · intro i h1 h2
    simp [listF, h2]
theorem listF_append (n m : Nat) (f : Nat → Int) : listF n f ++ listF m (fun i => f (n + i)) = listF (n + m) f := by
  unfold listF
  rw [List.range_add, List.map_append, List.map_map]
  rfl
/-- All numbers are within -M .. M. -/
def inB (M : Int) (xs : List Int) : Bool := xs.all (fun x => decide (-M ≤ x) && decide (x ≤ M))
theorem inB_iff {M : Int} {xs : List Int} : inB M xs = true ↔ ∀ i, i < xs.length → -M ≤ xs.getD i 0 ∧ xs.getD i 0 ≤ M := by
  unfold inB
  rw [List.all_eq_true]
  constructor
  · intro h i hi
    have := h (xs.getD i 0) (by rw [List.getD_eq_getElem?_getD, List.getElem?_eq_getElem hi]; exact List.getElem_mem _)
    simpa using this
  · intro h x hx
    obtain ⟨i, hi, rfl⟩ := List.mem_iff_getElem.1 hx
    have := h i hi
    rw [List.getD_eq_getElem?_getD, List.getElem?_eq_getElem hi] at this
    simpa using this
theorem inB_no {M : Int} {xs : List Int} {k : Nat} (hk : k < xs.length) (h : ¬ (-M ≤ xs.getD k 0 ∧ xs.getD k 0 ≤ M)) : inB M xs = false := by
  cases hb : inB M xs with
  | false => rfl
  | true => exact absurd (inB_iff.1 hb k hk) h

end Go.Proofs.Ytpodpfdbklffgaa
