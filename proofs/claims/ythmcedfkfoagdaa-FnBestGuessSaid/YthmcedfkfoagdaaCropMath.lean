/-
  Rectangles in a picture: which lie within it, and what is in them.
-/
import Derived.Test.YthmcedfkfoagdaaPicMath
namespace Go.Proofs.Ythmcedfkfoagdaa
open Go.RowKit
set_option linter.unusedVariables false
set_option maxRecDepth 20000

def spanB (f s side : Int) : Bool := decide (0 ≤ f) && decide (1 ≤ s) && decide (f ≤ side - s)
theorem spanB_iff {f s side : Int} : spanB f s side = true ↔ 0 ≤ f ∧ 1 ≤ s ∧ f ≤ side - s := by simp [spanB, and_assoc]
def inRB (W H l t a b : Int) : Bool := spanB l a W && spanB t b H
theorem inRB_iff {W H l t a b : Int} : inRB W H l t a b = true ↔ (0 ≤ l ∧ 1 ≤ a ∧ l ≤ W - a) ∧ (0 ≤ t ∧ 1 ≤ b ∧ t ≤ H - b) := by
  simp [inRB, spanB, and_assoc]
/-- Where row k of the rectangle begins in the picture. -/
def rowA (W l t : Int) (k : Nat) : Nat := ((t + (k : Int)) * W + l).toNat
theorem rowA_in {W H l t a b : Int} {z : Int} {k : Nat} (h : inRB W H l t a b = true) (hz : z = W * H) (hW : 1 ≤ W) (hk : (k : Int) < b) :
    (t + (k : Int)) * W + l = (rowA W l t k : Int) ∧ 0 ≤ (t + (k : Int)) * W ∧ (rowA W l t k : Int) + a ≤ z := by
  obtain ⟨⟨h0, h1, h2⟩, h3, h4, h5⟩ := inRB_iff.1 h
  have c : 0 * W ≤ (t + (k : Int)) * W := Int.mul_le_mul_of_nonneg_right (by omega) (by omega)
  have d : (t + (k : Int)) * W ≤ (H - 1) * W := Int.mul_le_mul_of_nonneg_right (by omega) (by omega)
  rw [Int.sub_mul, Int.one_mul, Int.mul_comm H W] at d
  have e : (t + (k : Int)) * W + l = (rowA W l t k : Int) := by unfold rowA; omega
  refine ⟨e, by omega, ?_⟩
  rw [← e]
  omega
/-- The first k rows of what is in a rectangle. -/
def cropS (W : Int) (s : ByteArray) (l t a : Int) : Nat → ByteArray
  | 0 => ⟨#[]⟩
  | k + 1 => cropS W s l t a k ++ s.extract (rowA W l t k) (rowA W l t k + a.toNat)
theorem cropS_size {W H l t a b : Int} {s : ByteArray} (h : inRB W H l t a b = true) (hz : (s.size : Int) = W * H) (hW : 1 ≤ W) : ∀ k : Nat, (k : Int) ≤ b → (cropS W s l t a k).size = k * a.toNat
  | 0, _ => by rw [Nat.zero_mul]; rfl
  | k + 1, hk => by
    have ih := cropS_size h hz hW k (by omega)
    obtain ⟨e, _, g⟩ := rowA_in h hz hW (k := k) (by omega)
    obtain ⟨⟨_, h1, _⟩, _⟩ := inRB_iff.1 h
    rw [cropS, ByteArray.size_append, ih, ByteArray.size_extract, Nat.add_mul]
    omega
/-- What CutOf answers. -/
def cropV (W H : Int) (s : ByteArray) (l t a b : Int) : Value :=
  if picB W H s && inRB W H l t a b then .tuple #[.agg #[.int .i64 a, .int .i64 b, .string (cropS W s l t a b.toNat)], .bool true] else .tuple #[.agg #[.int .i64 0, .int .i64 0, .string ⟨#[]⟩], .bool false]
end Go.Proofs.Ythmcedfkfoagdaa
