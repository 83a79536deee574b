/-
  When a square is right.
-/
import Derived.Test.YtnlbigjfnjcldaaSqMath
namespace Go.Proofs.Ytnlbigjfnjcldaa
open Go.RowKit
set_option linter.unusedVariables false
set_option maxRecDepth 20000

def sqOkB (kd md dx dy : Int) (xs : List Int) : Bool :=
  if kd = 0 then decide (md = 0) && decide (dx = 0) && decide (dy = 0) && decide (xs.length = 0)
  else if kd = 1 then decide (md = 0) && (decide (-16 ≤ dx) && decide (dx ≤ 16)) && (decide (-16 ≤ dy) && decide (dy ≤ 16)) && sqB 5000 xs
  else if kd = 2 then (decide (0 ≤ md) && decide (md ≤ 3)) && decide (dx = 0) && decide (dy = 0) && sqB 5000 xs
  else false
theorem sqOk_cases {kd md dx dy : Int} {xs : List Int} (h : sqOkB kd md dx dy xs = true) :
    (kd = 0 ∧ md = 0 ∧ dx = 0 ∧ dy = 0 ∧ xs = []) ∨ (kd = 1 ∧ md = 0 ∧ (-16 ≤ dx ∧ dx ≤ 16) ∧ (-16 ≤ dy ∧ dy ≤ 16) ∧ sqB 5000 xs = true) ∨ (kd = 2 ∧ (0 ≤ md ∧ md ≤ 3) ∧ dx = 0 ∧ dy = 0 ∧ sqB 5000 xs = true) := by
  unfold sqOkB at h
  by_cases h0 : kd = 0
  · rw [if_pos h0] at h
    simp only [Bool.and_eq_true, decide_eq_true_eq] at h
    exact .inl ⟨h0, h.1.1.1, h.1.1.2, h.1.2, List.eq_nil_of_length_eq_zero h.2⟩
  · rw [if_neg h0] at h
    by_cases h1 : kd = 1
    · rw [if_pos h1] at h
      simp only [Bool.and_eq_true, decide_eq_true_eq] at h
      exact .inr (.inl ⟨h1, h.1.1.1, h.1.1.2, h.1.2, h.2⟩)
    · rw [if_neg h1] at h
      by_cases h2 : kd = 2
      · rw [if_pos h2] at h
        simp only [Bool.and_eq_true, decide_eq_true_eq] at h
        exact .inr (.inr ⟨h2, h.1.1.1, h.1.1.2, h.1.2, h.2⟩)
      · rw [if_neg h2] at h
        cases h
end Go.Proofs.Ytnlbigjfnjcldaa
