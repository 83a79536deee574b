/-
  Lists of 64 numbers within bounds.
-/
import Derived.Test.YtnlbigjfnjcldaaAllKit
namespace Go.Proofs.Ytnlbigjfnjcldaa
open Go.RowKit
set_option linter.unusedVariables false
set_option maxRecDepth 20000

def sqB (M : Int) (xs : List Int) : Bool := decide (xs.length = 64) && inB M xs
theorem sqB_iff {M : Int} {xs : List Int} : sqB M xs = true ↔ xs.length = 64 ∧ inB M xs = true := by unfold sqB; simp
theorem sqB_at {M : Int} {xs : List Int} (h : sqB M xs = true) : ∀ i, i < 64 → -M ≤ xs.getD i 0 ∧ xs.getD i 0 ≤ M := fun i hi => by
  obtain ⟨h1, h2⟩ := sqB_iff.1 h
  exact inB_iff.1 h2 i (by omega)
end Go.Proofs.Ytnlbigjfnjcldaa
