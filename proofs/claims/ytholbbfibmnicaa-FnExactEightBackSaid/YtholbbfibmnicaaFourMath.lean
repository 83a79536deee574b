/-
  Turns of four as functions of numbers: rows, columns, the whole turn, and the turn back.
-/
import Derived.WalkKit
namespace Go.Proofs.Ytholbbfibmnicaa
set_option linter.unusedVariables false
set_option maxRecDepth 20000

/-- What a row a, b, c, d becomes, place by place. -/
def sumR (j : Nat) (a b c d : Int) : Int := match j with | 0 => a + b + c + d | 1 => 2 * a + b - c - 2 * d | 2 => a - b - c + d | _ => a - 2 * b + 2 * c - d
def bakR (j : Nat) (a b c d : Int) : Int := match j with | 0 => (a + c) + (b + d / 2) | 1 => (a - c) + (b / 2 - d) | 2 => (a - c) - (b / 2 - d) | _ => (a + c) - (b + d / 2)
/-- The four rows of sixteen numbers, each turned. -/
def rowsF (T : Nat → Int → Int → Int → Int → Int) (f : Nat → Int) (i : Nat) : Int := T (i % 4) (f (4 * (i / 4))) (f (4 * (i / 4) + 1)) (f (4 * (i / 4) + 2)) (f (4 * (i / 4) + 3))
/-- Columns as rows. -/
def flipF (f : Nat → Int) (i : Nat) : Int := f (i % 4 * 4 + i / 4)
def turnF (T : Nat → Int → Int → Int → Int → Int) (f : Nat → Int) : Nat → Int := flipF (rowsF T (flipF (rowsF T f)))
theorem rowsF_at (T : Nat → Int → Int → Int → Int → Int) (f : Nat → Int) (k j : Nat) (hj : j < 4) : rowsF T f (4 * k + j) = T j (f (4 * k)) (f (4 * k + 1)) (f (4 * k + 2)) (f (4 * k + 3)) := by
  unfold rowsF
  rw [show (4 * k + j) % 4 = j by omega, show (4 * k + j) / 4 = k by omega]
theorem flipF_at (f : Nat → Int) (k j : Nat) (hj : j < 4) (hk : k < 4) : flipF f (4 * k + j) = f (4 * j + k) := by
  unfold flipF
  rw [show (4 * k + j) % 4 * 4 + (4 * k + j) / 4 = 4 * j + k by omega]
/-- Numbers of at most M, of both signs. -/
def In (M : Int) (n : Nat) (f : Nat → Int) : Prop := ∀ i, i < n → -M ≤ f i ∧ f i ≤ M
theorem In.flip {M : Int} {f : Nat → Int} (h : In M 16 f) : In M 16 (flipF f) := fun i hi => h _ (by omega)
theorem In.sums {M : Int} {f : Nat → Int} (h : In M 16 f) : In (6 * M) 16 (rowsF sumR f) := fun i hi => by
  unfold rowsF
  have h0 := h (4 * (i / 4)) (by omega)
  have h1 := h (4 * (i / 4) + 1) (by omega)
  have h2 := h (4 * (i / 4) + 2) (by omega)
  have h3 := h (4 * (i / 4) + 3) (by omega)
  have hc : i % 4 = 0 ∨ i % 4 = 1 ∨ i % 4 = 2 ∨ i % 4 = 3 := by omega
  rcases hc with e | e | e | e <;> rw [e] <;> simp only [sumR] <;> omega
theorem In.baks {M : Int} {f : Nat → Int} (h : In M 16 f) (hM : 0 ≤ M) : In (4 * M + 2) 16 (rowsF bakR f) := fun i hi => by
  unfold rowsF
  have h0 := h (4 * (i / 4)) (by omega)
  have h1 := h (4 * (i / 4) + 1) (by omega)
  have h2 := h (4 * (i / 4) + 2) (by omega)
  have h3 := h (4 * (i / 4) + 3) (by omega)
  have hc : i % 4 = 0 ∨ i % 4 = 1 ∨ i % 4 = 2 ∨ i % 4 = 3 := by omega
  rcases hc with e | e | e | e <;> rw [e] <;> simp only [bakR] <;> omega
theorem In.turned {M : Int} {f : Nat → Int} (h : In M 16 f) : In (36 * M) 16 (turnF sumR f) := by
  have := h.sums.flip.sums.flip
  rwa [show 6 * (6 * M) = 36 * M by omega] at this
theorem In.back {M : Int} {f : Nat → Int} (h : In M 16 f) (hM : 0 ≤ M) : In (16 * M + 10) 16 (turnF bakR f) := by
  have := ((h.baks hM).flip.baks (by omega)).flip
  rwa [show 4 * (4 * M + 2) + 2 = 16 * M + 10 by omega] at this
theorem flip_zero : ∀ i, i < 16 → flipF (fun _ => 0) i = 0 := fun _ _ => rfl
/-- Noughts turn into noughts. -/
theorem sum_zero (j : Nat) : sumR j 0 0 0 0 = 0 := by unfold sumR; split <;> rfl
theorem bak_zero (j : Nat) : bakR j 0 0 0 0 = 0 := by unfold bakR; split <;> rfl
theorem turn_congr {T : Nat → Int → Int → Int → Int → Int} {f g : Nat → Int} (h : ∀ i, i < 16 → f i = g i) : ∀ i, i < 16 → turnF T f i = turnF T g i := fun i hi => by
  unfold turnF flipF rowsF
  have e : ∀ k, k < 16 → f k = g k := h
  simp only
  rw [e _ (by omega), e _ (by omega), e _ (by omega), e _ (by omega), e _ (by omega), e _ (by omega), e _ (by omega), e _ (by omega),
    e _ (by omega), e _ (by omega), e _ (by omega), e _ (by omega), e _ (by omega), e _ (by omega), e _ (by omega), e _ (by omega)]
theorem turn_zero {T : Nat → Int → Int → Int → Int → Int} (hT : ∀ j, T j 0 0 0 0 = 0) {f : Nat → Int} (h : ∀ i, i < 16 → f i = 0) : ∀ i, i < 16 → turnF T f i = f i := fun i hi => by
  rw [turn_congr (T := T) (g := fun _ => 0) h i hi, h i hi]
  unfold turnF flipF rowsF
  simp only [hT]
end Go.Proofs.Ytholbbfibmnicaa
