/-
  Signs of eight by eight: as many ones in the figures that both numbers have; what sums with signs are, there and back.
-/
import Derived.WalkKit
namespace Go.Proofs.YtlejfkjanllgbaaDoor
set_option linter.unusedVariables false
set_option maxRecDepth 20000

/-- 1 when the figures of n (of three) make an even number of ones, else -1. -/
def sgn (n : Nat) : Int := if (n % 2 + n / 2 % 2 + n / 4 % 2) % 2 = 0 then 1 else -1
def sg (i k : Nat) : Int := sgn (i &&& k)
theorem sgn_one (n : Nat) : sgn n = 1 ∨ sgn n = -1 := by
  unfold sgn
  split
  · exact .inl rfl
  · exact .inr rfl
theorem sg_one (i k : Nat) : sg i k = 1 ∨ sg i k = -1 := sgn_one _
theorem sgn_even {m : Nat} (hm : m < 8) (h : m % 2 = 0) : sgn (m / 2) = sgn m := by
  have hc : m = 0 ∨ m = 2 ∨ m = 4 ∨ m = 6 := by omega
  rcases hc with rfl | rfl | rfl | rfl <;> decide
theorem sgn_odd {m : Nat} (hm : m < 8) (h : m % 2 = 1) : sgn (m / 2) = - sgn m := by
  have hc : m = 1 ∨ m = 3 ∨ m = 5 ∨ m = 7 := by omega
  rcases hc with rfl | rfl | rfl | rfl <;> decide
theorem and_lt {i k : Nat} (hi : i < 8) : i &&& k < 8 := Nat.lt_of_le_of_lt Nat.and_le_left hi
theorem sg_comm (i k : Nat) : sg i k = sg k i := by unfold sg; rw [Nat.and_comm]

/-- The sum of the first k. -/
def sumTo (g : Nat → Int) : Nat → Int
  | 0 => 0
  | k + 1 => sumTo g k + g k
theorem sumTo_congr {g h : Nat → Int} {k : Nat} (e : ∀ i, i < k → g i = h i) : sumTo g k = sumTo h k := by
  induction k with
  | zero => rfl
  | succ k ih => rw [sumTo, sumTo, ih (fun i hi => e i (by omega)), e k (by omega)]
theorem sumTo_bd {g : Nat → Int} {M : Int} {k : Nat} (h : ∀ i, i < k → -M ≤ g i ∧ g i ≤ M) : -(k * M) ≤ sumTo g k ∧ sumTo g k ≤ k * M := by
  induction k with
  | zero => simp [sumTo]
  | succ k ih =>
    have h1 := ih (fun i hi => h i (by omega))
    have h2 := h k (by omega)
    rw [sumTo, show ((k + 1 : Nat) : Int) * M = k * M + M by rw [Int.natCast_succ, Int.add_mul, Int.one_mul]]
    omega
theorem sumTo_add (g h : Nat → Int) (k : Nat) : sumTo (fun i => g i + h i) k = sumTo g k + sumTo h k := by
  induction k with
  | zero => rfl
  | succ k ih => rw [sumTo, sumTo, sumTo, ih]; omega
theorem sumTo_mul (c : Int) (g : Nat → Int) (k : Nat) : sumTo (fun i => c * g i) k = c * sumTo g k := by
  induction k with
  | zero => simp [sumTo]
  | succ k ih => rw [sumTo, sumTo, ih, Int.mul_add]
theorem sumTo_swap (g : Nat → Nat → Int) (n k : Nat) : sumTo (fun i => sumTo (fun j => g i j) k) n = sumTo (fun j => sumTo (fun i => g i j) n) k := by
  induction n with
  | zero =>
    simp only [sumTo]
    induction k with
    | zero => rfl
    | succ k ih => rw [sumTo, ← ih]; rfl
  | succ n ih =>
    rw [sumTo, ih, ← sumTo_add]
    rfl

/-- The sum of a row with the signs of u. -/
def dot (u : Nat) (r : Nat → Int) : Int := sumTo (fun p => sg u p * r p) 8
theorem sg_bd {M x : Int} (u p : Nat) (h : -M ≤ x ∧ x ≤ M) : -M ≤ sg u p * x ∧ sg u p * x ≤ M := by
  rcases sg_one u p with e | e <;> rw [e] <;> omega
theorem dot_bd {M : Int} {r : Nat → Int} (u : Nat) (h : ∀ i, i < 8 → -M ≤ r i ∧ r i ≤ M) : -(8 * M) ≤ dot u r ∧ dot u r ≤ 8 * M :=
  sumTo_bd (k := 8) (fun i hi => sg_bd u i (h i hi))
theorem dot_congr {u : Nat} {r s : Nat → Int} (h : ∀ i, i < 8 → r i = s i) : dot u r = dot u s := sumTo_congr fun i hi => by rw [h i hi]
theorem sg_table : sg 0 0 = 1 ∧ sg 0 1 = 1 ∧ sg 0 2 = 1 ∧ sg 0 3 = 1 ∧ sg 0 4 = 1 ∧ sg 0 5 = 1 ∧ sg 0 6 = 1 ∧ sg 0 7 = 1 ∧ sg 1 0 = 1 ∧ sg 1 1 = -1 ∧ sg 1 2 = 1 ∧ sg 1 3 = -1 ∧ sg 1 4 = 1 ∧ sg 1 5 = -1 ∧ sg 1 6 = 1 ∧ sg 1 7 = -1 ∧ sg 2 0 = 1 ∧ sg 2 1 = 1 ∧ sg 2 2 = -1 ∧ sg 2 3 = -1 ∧ sg 2 4 = 1 ∧ sg 2 5 = 1 ∧ sg 2 6 = -1 ∧ sg 2 7 = -1 ∧ sg 3 0 = 1 ∧ sg 3 1 = -1 ∧ sg 3 2 = -1 ∧ sg 3 3 = 1 ∧ sg 3 4 = 1 ∧ sg 3 5 = -1 ∧ sg 3 6 = -1 ∧ sg 3 7 = 1 ∧ sg 4 0 = 1 ∧ sg 4 1 = 1 ∧ sg 4 2 = 1 ∧ sg 4 3 = 1 ∧ sg 4 4 = -1 ∧ sg 4 5 = -1 ∧ sg 4 6 = -1 ∧ sg 4 7 = -1 ∧ sg 5 0 = 1 ∧ sg 5 1 = -1 ∧ sg 5 2 = 1 ∧ sg 5 3 = -1 ∧ sg 5 4 = -1 ∧ sg 5 5 = 1 ∧ sg 5 6 = -1 ∧ sg 5 7 = 1 ∧ sg 6 0 = 1 ∧ sg 6 1 = 1 ∧ sg 6 2 = -1 ∧ sg 6 3 = -1 ∧ sg 6 4 = -1 ∧ sg 6 5 = -1 ∧ sg 6 6 = 1 ∧ sg 6 7 = 1 ∧ sg 7 0 = 1 ∧ sg 7 1 = -1 ∧ sg 7 2 = -1 ∧ sg 7 3 = 1 ∧ sg 7 4 = -1 ∧ sg 7 5 = 1 ∧ sg 7 6 = 1 ∧ sg 7 7 = -1 := by decide
/-- What was summed comes back eight times as much. -/
theorem dot_dot (r : Nat → Int) (u : Nat) (hu : u < 8) : dot u (fun v => dot v r) = 8 * r u := by
  have hc : u = 0 ∨ u = 1 ∨ u = 2 ∨ u = 3 ∨ u = 4 ∨ u = 5 ∨ u = 6 ∨ u = 7 := by omega
  simp only [dot, sumTo]
  rcases hc with rfl | rfl | rfl | rfl | rfl | rfl | rfl | rfl <;> simp only [sg_table] <;> omega
/-- The squares of the sums are eight times the squares. -/
theorem dot_square (r : Nat → Int) : sumTo (fun u => dot u r * dot u r) 8 = 8 * sumTo (fun p => r p * r p) 8 := by
  simp only [dot, sumTo, sg_table]
  generalize r 0 = x0
  generalize r 1 = x1
  generalize r 2 = x2
  generalize r 3 = x3
  generalize r 4 = x4
  generalize r 5 = x5
  generalize r 6 = x6
  generalize r 7 = x7
  grind
/-- Of unlike rows of signs as many are alike as are not. -/
theorem sg_rows (i j : Nat) (hi : i < 8) (hj : j < 8) : sumTo (fun k => sg i k * sg j k) 8 = if i = j then 8 else 0 := by
  have hc : i = 0 ∨ i = 1 ∨ i = 2 ∨ i = 3 ∨ i = 4 ∨ i = 5 ∨ i = 6 ∨ i = 7 := by omega
  have hd : j = 0 ∨ j = 1 ∨ j = 2 ∨ j = 3 ∨ j = 4 ∨ j = 5 ∨ j = 6 ∨ j = 7 := by omega
  rcases hc with rfl | rfl | rfl | rfl | rfl | rfl | rfl | rfl <;> rcases hd with rfl | rfl | rfl | rfl | rfl | rfl | rfl | rfl <;> decide
end Go.Proofs.YtlejfkjanllgbaaDoor
