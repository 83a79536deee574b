/-
  Turns of eight as functions of numbers: the sums of rows laid as columns, twice; they come back sixty-four times as much, and so does the weight.
-/
import Derived.Test.YtlejfkjanllgbaaDoorSignMath
namespace Go.Proofs.YtlejfkjanllgbaaDoor
set_option linter.unusedVariables false
set_option maxRecDepth 20000

/-- The sums of each row, as a column. -/
def crossF (f : Nat → Int) (i : Nat) : Int := dot (i / 8) (fun p => f (i % 8 * 8 + p))
def eightF (f : Nat → Int) : Nat → Int := crossF (crossF f)
theorem crossF_at (f : Nat → Int) (u r : Nat) (hr : r < 8) : crossF f (u * 8 + r) = dot u (fun p => f (r * 8 + p)) := by
  unfold crossF
  rw [show (u * 8 + r) / 8 = u by omega, show (u * 8 + r) % 8 = r by omega]
theorem crossF_bd {M : Int} {f : Nat → Int} (h : ∀ i, i < 64 → -M ≤ f i ∧ f i ≤ M) : ∀ i, i < 64 → -(8 * M) ≤ crossF f i ∧ crossF f i ≤ 8 * M := fun i hi =>
  dot_bd _ (fun p hp => h _ (by omega))
theorem crossF_congr {f g : Nat → Int} (h : ∀ i, i < 64 → f i = g i) : ∀ i, i < 64 → crossF f i = crossF g i := fun i hi =>
  dot_congr fun p hp => h _ (by omega)
theorem eightF_at (f : Nat → Int) (u v : Nat) (hu : u < 8) (hv : v < 8) : eightF f (u * 8 + v) = dot u (fun i => dot v (fun p => f (i * 8 + p))) := by
  unfold eightF
  rw [crossF_at _ u v hv]
  exact dot_congr fun p hp => crossF_at f v p hp
theorem dot_swap (X : Nat → Nat → Int) (u v : Nat) : dot u (fun i => dot v (fun k => X i k)) = dot v (fun k => dot u (fun i => X i k)) := by
  unfold dot
  have e : ∀ i, sg u i * sumTo (fun k => sg v k * X i k) 8 = sumTo (fun k => sg u i * (sg v k * X i k)) 8 := fun i => (sumTo_mul _ _ _).symm
  have e2 : ∀ k, sg v k * sumTo (fun i => sg u i * X i k) 8 = sumTo (fun i => sg v k * (sg u i * X i k)) 8 := fun k => (sumTo_mul _ _ _).symm
  simp only [e, e2]
  rw [sumTo_swap]
  refine sumTo_congr fun k hk => sumTo_congr fun i hi => ?_
  rw [← Int.mul_assoc, ← Int.mul_assoc, Int.mul_comm (sg u i)]
theorem dot_scale (c : Int) (u : Nat) (r : Nat → Int) : dot u (fun p => c * r p) = c * dot u r := by
  unfold dot
  rw [← sumTo_mul]
  refine sumTo_congr fun k hk => ?_
  rw [← Int.mul_assoc, ← Int.mul_assoc, Int.mul_comm (sg u k)]
/-- Twice turned is sixty-four times as much. -/
theorem eight_eight (f : Nat → Int) : ∀ i, i < 64 → eightF (eightF f) i = 64 * f i := fun i hi => by
  obtain ⟨u, v, hu, hv, rfl⟩ : ∃ u v, u < 8 ∧ v < 8 ∧ i = u * 8 + v := ⟨i / 8, i % 8, by omega, by omega, by omega⟩
  rw [eightF_at _ u v hu hv]
  have e : ∀ a, a < 8 → dot v (fun p => eightF f (a * 8 + p)) = 8 * dot a (fun i => f (i * 8 + v)) := fun a ha => by
    rw [dot_congr (s := fun p => dot a (fun i => dot p (fun q => f (i * 8 + q)))) (fun p hp => eightF_at f a p ha hp)]
    rw [dot_swap (fun p i => dot p (fun q => f (i * 8 + q))) v a]
    rw [dot_congr (s := fun i => 8 * f (i * 8 + v)) (fun i hi => dot_dot (fun q => f (i * 8 + q)) v hv)]
    exact dot_scale 8 a _
  rw [dot_congr e, dot_scale, dot_dot (fun i => f (i * 8 + v)) u hu]
  omega
/-- Sixty-four numbers, row by row. -/
theorem sumTo_rows (g : Nat → Int) (n m : Nat) : sumTo g (n * m) = sumTo (fun r => sumTo (fun k => g (r * m + k)) m) n := by
  have step : ∀ a k, sumTo g (a + k) = sumTo g a + sumTo (fun i => g (a + i)) k := fun a k => by
    induction k with
    | zero => simp [sumTo]
    | succ k ih => rw [← Nat.add_assoc, sumTo, ih, sumTo]; omega
  induction n with
  | zero => simp [sumTo]
  | succ n ih => rw [Nat.succ_mul, step, ih]; rfl
theorem cross_weight (f : Nat → Int) : sumTo (fun i => crossF f i * crossF f i) 64 = 8 * sumTo (fun i => f i * f i) 64 := by
  rw [show (64 : Nat) = 8 * 8 from rfl, sumTo_rows, sumTo_rows]
  rw [sumTo_congr (h := fun u => sumTo (fun r => dot u (fun p => f (r * 8 + p)) * dot u (fun p => f (r * 8 + p))) 8) (fun u hu => sumTo_congr fun r hr => by rw [crossF_at f u r hr])]
  rw [sumTo_swap, ← sumTo_mul]
  exact sumTo_congr fun r hr => dot_square _
/-- The weight of what was turned. -/
theorem eight_weight (f : Nat → Int) : sumTo (fun i => eightF f i * eightF f i) 64 = 64 * sumTo (fun i => f i * f i) 64 := by
  unfold eightF
  rw [cross_weight, cross_weight]
  omega
end Go.Proofs.YtlejfkjanllgbaaDoor
