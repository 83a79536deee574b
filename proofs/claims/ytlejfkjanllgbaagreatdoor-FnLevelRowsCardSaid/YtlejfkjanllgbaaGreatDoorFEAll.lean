/-
  Signs of eight by eight: as many ones in the figures that both numbers have; what sums with signs are, there and back.
  Turns of eight as functions of numbers: the sums of rows laid as columns, twice; they come back sixty-four times as much, and so does the weight.
  What is left over, large: what comes back of levels is near what was, by half a step at most.
  Turns of four as functions of numbers: rows, columns, the whole turn, and the turn back.
  The types of a square of four: sizes, and what is a row.
  The walk of (impl.fourSquare).flipped: columns as rows.
  The walks of (impl.fourRow).sums and sumsBack, impl.halfDown and impl.turnedDown.
  The walk of (impl.fourSquare).rowsTurned with each of the two turns.
  The walks of (impl.fourSquare).turned with each of the two turns, and of list.
  The walk of (impl.fourSquare).list.
  The walk of impl.fourSquareOf: sixteen numbers within a limit, as a square.
  The walks of spec.l09Flip, l09Rows, l09Backs and l09Down.
  The walks of impl.Four, impl.FourBack, spec.Four and spec.FourBack.
  What turns of four say of sums, as facts of numbers and of lists.
  The walks of bits.OnesCount, of three figures.
  The walks of impl.SignOf and spec.SignOf.
  The types of a square of eight: sizes, and what is a row; the walk of (impl.eightRow).sum.
  The walk of (impl.eightSquare).crossed: the sums of each row, laid as a column.
  The walks of (impl.eightSquare).turned and list.
  The walk of impl.eightSquareOf: sixty-four numbers within a limit, as a square.
  The walks of spec.l10Row and spec.l10Sums.
  The walks of impl.Eight, impl.EightBack, spec.Eight and spec.EightBack.
-/
import Derived.WalkKit
import Derived.Test.YtlejfkjanllgbaaGreatDoorStepMath
import Derived.Test.YtlejfkjanllgbaaGreatDoorSqRun
import Derived.Deep.WholeRow
import Derived.BigRegion
import Derived.BigQuiet
import Derived.Test.YtlejfkjanllgbaaGreatDoorIntAll
import Derived.Deep.AppendLies
import Derived.Test.YtlejfkjanllgbaaGreatDoorInKit
import Derived.KernelRfl
import Derived.Deep.RegionWith
import Derived.Deep.RegionHeld3
set_option maxRecDepth 20000
namespace Go.Proofs.YtlejfkjanllgbaaGreatDoor
set_option linter.unusedVariables false
set_option maxRecDepth 20000

/-- 1 when the figures of n (of three) make an even number of ones, else -1. -/
def sgn (n : Nat) : Int := if (n % 2 + n / 2 % 2 + n / 4 % 2) % 2 = 0 then 1 else -1
def sg (i k : Nat) : Int := sgn (i &&& k)
theorem sgn_one (n : Nat) : sgn n = 1 ∨ sgn n = -1 := by
  unfold sgn
  split
  · exact .inl rfl
  · exact .inr rfl
theorem sg_one (i k : Nat) : sg i k = 1 ∨ sg i k = -1 := sgn_one _
theorem sgn_even {m : Nat} (hm : m < 8) (h : m % 2 = 0) : sgn (m / 2) = sgn m := by
  have hc : m = 0 ∨ m = 2 ∨ m = 4 ∨ m = 6 := by omega
  rcases hc with rfl | rfl | rfl | rfl <;> decide
theorem sgn_odd {m : Nat} (hm : m < 8) (h : m % 2 = 1) : sgn (m / 2) = - sgn m := by
  have hc : m = 1 ∨ m = 3 ∨ m = 5 ∨ m = 7 := by omega
  rcases hc with rfl | rfl | rfl | rfl <;> decide
theorem and_lt {i k : Nat} (hi : i < 8) : i &&& k < 8 := Nat.lt_of_le_of_lt Nat.and_le_left hi
theorem sg_comm (i k : Nat) : sg i k = sg k i := by unfold sg; rw [Nat.and_comm]

/-- The sum of the first k. -/
def sumTo (g : Nat → Int) : Nat → Int
  | 0 => 0
  | k + 1 => sumTo g k + g k
theorem sumTo_congr {g h : Nat → Int} {k : Nat} (e : ∀ i, i < k → g i = h i) : sumTo g k = sumTo h k := by
  induction k with
  | zero => rfl
  | succ k ih => rw [sumTo, sumTo, ih (fun i hi => e i (by omega)), e k (by omega)]
theorem sumTo_bd {g : Nat → Int} {M : Int} {k : Nat} (h : ∀ i, i < k → -M ≤ g i ∧ g i ≤ M) : -(k * M) ≤ sumTo g k ∧ sumTo g k ≤ k * M := by
  induction k with
  | zero => simp [sumTo]
  | succ k ih =>
    have h1 := ih (fun i hi => h i (by omega))
    have h2 := h k (by omega)
    rw [sumTo, show ((k + 1 : Nat) : Int) * M = k * M + M by rw [Int.natCast_succ, Int.add_mul, Int.one_mul]]
    omega
theorem sumTo_add (g h : Nat → Int) (k : Nat) : sumTo (fun i => g i + h i) k = sumTo g k + sumTo h k := by
  induction k with
  | zero => rfl
  | succ k ih => rw [sumTo, sumTo, sumTo, ih]; omega
theorem sumTo_mul (c : Int) (g : Nat → Int) (k : Nat) : sumTo (fun i => c * g i) k = c * sumTo g k := by
  induction k with
  | zero => simp [sumTo]
  | succ k ih => rw [sumTo, sumTo, ih, Int.mul_add]
theorem sumTo_swap (g : Nat → Nat → Int) (n k : Nat) : sumTo (fun i => sumTo (fun j => g i j) k) n = sumTo (fun j => sumTo (fun i => g i j) n) k := by
  induction n with
  | zero =>
    simp only [sumTo]
    induction k with
    | zero => rfl
    | succ k ih => rw [sumTo, ← ih]; rfl
  | succ n ih =>
    rw [sumTo, ih, ← sumTo_add]
    rfl

/-- The sum of a row with the signs of u. -/
def dot (u : Nat) (r : Nat → Int) : Int := sumTo (fun p => sg u p * r p) 8
theorem sg_bd {M x : Int} (u p : Nat) (h : -M ≤ x ∧ x ≤ M) : -M ≤ sg u p * x ∧ sg u p * x ≤ M := by
  rcases sg_one u p with e | e <;> rw [e] <;> omega
theorem dot_bd {M : Int} {r : Nat → Int} (u : Nat) (h : ∀ i, i < 8 → -M ≤ r i ∧ r i ≤ M) : -(8 * M) ≤ dot u r ∧ dot u r ≤ 8 * M :=
  sumTo_bd (k := 8) (fun i hi => sg_bd u i (h i hi))
theorem dot_congr {u : Nat} {r s : Nat → Int} (h : ∀ i, i < 8 → r i = s i) : dot u r = dot u s := sumTo_congr fun i hi => by rw [h i hi]
theorem sg_table : sg 0 0 = 1 ∧ sg 0 1 = 1 ∧ sg 0 2 = 1 ∧ sg 0 3 = 1 ∧ sg 0 4 = 1 ∧ sg 0 5 = 1 ∧ sg 0 6 = 1 ∧ sg 0 7 = 1 ∧ sg 1 0 = 1 ∧ sg 1 1 = -1 ∧ sg 1 2 = 1 ∧ sg 1 3 = -1 ∧ sg 1 4 = 1 ∧ sg 1 5 = -1 ∧ sg 1 6 = 1 ∧ sg 1 7 = -1 ∧ sg 2 0 = 1 ∧ sg 2 1 = 1 ∧ sg 2 2 = -1 ∧ sg 2 3 = -1 ∧ sg 2 4 = 1 ∧ sg 2 5 = 1 ∧ sg 2 6 = -1 ∧ sg 2 7 = -1 ∧ sg 3 0 = 1 ∧ sg 3 1 = -1 ∧ sg 3 2 = -1 ∧ sg 3 3 = 1 ∧ sg 3 4 = 1 ∧ sg 3 5 = -1 ∧ sg 3 6 = -1 ∧ sg 3 7 = 1 ∧ sg 4 0 = 1 ∧ sg 4 1 = 1 ∧ sg 4 2 = 1 ∧ sg 4 3 = 1 ∧ sg 4 4 = -1 ∧ sg 4 5 = -1 ∧ sg 4 6 = -1 ∧ sg 4 7 = -1 ∧ sg 5 0 = 1 ∧ sg 5 1 = -1 ∧ sg 5 2 = 1 ∧ sg 5 3 = -1 ∧ sg 5 4 = -1 ∧ sg 5 5 = 1 ∧ sg 5 6 = -1 ∧ sg 5 7 = 1 ∧ sg 6 0 = 1 ∧ sg 6 1 = 1 ∧ sg 6 2 = -1 ∧ sg 6 3 = -1 ∧ sg 6 4 = -1 ∧ sg 6 5 = -1 ∧ sg 6 6 = 1 ∧ sg 6 7 = 1 ∧ sg 7 0 = 1 ∧ sg 7 1 = -1 ∧ sg 7 2 = -1 ∧ sg 7 3 = 1 ∧ sg 7 4 = -1 ∧ sg 7 5 = 1 ∧ sg 7 6 = 1 ∧ sg 7 7 = -1 := by decide
/-- What was summed comes back eight times as much. -/
theorem dot_dot (r : Nat → Int) (u : Nat) (hu : u < 8) : dot u (fun v => dot v r) = 8 * r u := by
  have hc : u = 0 ∨ u = 1 ∨ u = 2 ∨ u = 3 ∨ u = 4 ∨ u = 5 ∨ u = 6 ∨ u = 7 := by omega
  simp only [dot, sumTo]
  rcases hc with rfl | rfl | rfl | rfl | rfl | rfl | rfl | rfl <;> simp only [sg_table] <;> omega
/-- The squares of the sums are eight times the squares. -/
theorem dot_square (r : Nat → Int) : sumTo (fun u => dot u r * dot u r) 8 = 8 * sumTo (fun p => r p * r p) 8 := by
  simp only [dot, sumTo, sg_table]
  generalize r 0 = x0
  generalize r 1 = x1
  generalize r 2 = x2
  generalize r 3 = x3
  generalize r 4 = x4
  generalize r 5 = x5
  generalize r 6 = x6
  generalize r 7 = x7
  grind
/-- Of unlike rows of signs as many are alike as are not. -/
theorem sg_rows (i j : Nat) (hi : i < 8) (hj : j < 8) : sumTo (fun k => sg i k * sg j k) 8 = if i = j then 8 else 0 := by
  have hc : i = 0 ∨ i = 1 ∨ i = 2 ∨ i = 3 ∨ i = 4 ∨ i = 5 ∨ i = 6 ∨ i = 7 := by omega
  have hd : j = 0 ∨ j = 1 ∨ j = 2 ∨ j = 3 ∨ j = 4 ∨ j = 5 ∨ j = 6 ∨ j = 7 := by omega
  rcases hc with rfl | rfl | rfl | rfl | rfl | rfl | rfl | rfl <;> rcases hd with rfl | rfl | rfl | rfl | rfl | rfl | rfl | rfl <;> decide
end Go.Proofs.YtlejfkjanllgbaaGreatDoor

namespace Go.Proofs.YtlejfkjanllgbaaGreatDoor
set_option linter.unusedVariables false

/-- The sums of each row, as a column. -/
def crossF (f : Nat → Int) (i : Nat) : Int := dot (i / 8) (fun p => f (i % 8 * 8 + p))
def eightF (f : Nat → Int) : Nat → Int := crossF (crossF f)
theorem crossF_at (f : Nat → Int) (u r : Nat) (hr : r < 8) : crossF f (u * 8 + r) = dot u (fun p => f (r * 8 + p)) := by
  unfold crossF
  rw [show (u * 8 + r) / 8 = u by omega, show (u * 8 + r) % 8 = r by omega]
theorem crossF_bd {M : Int} {f : Nat → Int} (h : ∀ i, i < 64 → -M ≤ f i ∧ f i ≤ M) : ∀ i, i < 64 → -(8 * M) ≤ crossF f i ∧ crossF f i ≤ 8 * M := fun i hi =>
  dot_bd _ (fun p hp => h _ (by omega))
theorem crossF_congr {f g : Nat → Int} (h : ∀ i, i < 64 → f i = g i) : ∀ i, i < 64 → crossF f i = crossF g i := fun i hi =>
  dot_congr fun p hp => h _ (by omega)
theorem eightF_at (f : Nat → Int) (u v : Nat) (hu : u < 8) (hv : v < 8) : eightF f (u * 8 + v) = dot u (fun i => dot v (fun p => f (i * 8 + p))) := by
  unfold eightF
  rw [crossF_at _ u v hv]
  exact dot_congr fun p hp => crossF_at f v p hp
theorem dot_swap (X : Nat → Nat → Int) (u v : Nat) : dot u (fun i => dot v (fun k => X i k)) = dot v (fun k => dot u (fun i => X i k)) := by
  unfold dot
  have e : ∀ i, sg u i * sumTo (fun k => sg v k * X i k) 8 = sumTo (fun k => sg u i * (sg v k * X i k)) 8 := fun i => (sumTo_mul _ _ _).symm
  have e2 : ∀ k, sg v k * sumTo (fun i => sg u i * X i k) 8 = sumTo (fun i => sg v k * (sg u i * X i k)) 8 := fun k => (sumTo_mul _ _ _).symm
  simp only [e, e2]
  rw [sumTo_swap]
  refine sumTo_congr fun k hk => sumTo_congr fun i hi => ?_
  rw [← Int.mul_assoc, ← Int.mul_assoc, Int.mul_comm (sg u i)]
theorem dot_scale (c : Int) (u : Nat) (r : Nat → Int) : dot u (fun p => c * r p) = c * dot u r := by
  unfold dot
  rw [← sumTo_mul]
  refine sumTo_congr fun k hk => ?_
  rw [← Int.mul_assoc, ← Int.mul_assoc, Int.mul_comm (sg u k)]
/-- Twice turned is sixty-four times as much. -/
theorem eight_eight (f : Nat → Int) : ∀ i, i < 64 → eightF (eightF f) i = 64 * f i := fun i hi => by
  obtain ⟨u, v, hu, hv, rfl⟩ : ∃ u v, u < 8 ∧ v < 8 ∧ i = u * 8 + v := ⟨i / 8, i % 8, by omega, by omega, by omega⟩
  rw [eightF_at _ u v hu hv]
  have e : ∀ a, a < 8 → dot v (fun p => eightF f (a * 8 + p)) = 8 * dot a (fun i => f (i * 8 + v)) := fun a ha => by
    rw [dot_congr (s := fun p => dot a (fun i => dot p (fun q => f (i * 8 + q)))) (fun p hp => eightF_at f a p ha hp)]
    rw [dot_swap (fun p i => dot p (fun q => f (i * 8 + q))) v a]
    rw [dot_congr (s := fun i => 8 * f (i * 8 + v)) (fun i hi => dot_dot (fun q => f (i * 8 + q)) v hv)]
    exact dot_scale 8 a _
  rw [dot_congr e, dot_scale, dot_dot (fun i => f (i * 8 + v)) u hu]
  omega
/-- Sixty-four numbers, row by row. -/
theorem sumTo_rows (g : Nat → Int) (n m : Nat) : sumTo g (n * m) = sumTo (fun r => sumTo (fun k => g (r * m + k)) m) n := by
  have step : ∀ a k, sumTo g (a + k) = sumTo g a + sumTo (fun i => g (a + i)) k := fun a k => by
    induction k with
    | zero => simp [sumTo]
    | succ k ih => rw [← Nat.add_assoc, sumTo, ih, sumTo]; omega
  induction n with
  | zero => simp [sumTo]
  | succ n ih => rw [Nat.succ_mul, step, ih]; rfl
theorem cross_weight (f : Nat → Int) : sumTo (fun i => crossF f i * crossF f i) 64 = 8 * sumTo (fun i => f i * f i) 64 := by
  rw [show (64 : Nat) = 8 * 8 from rfl, sumTo_rows, sumTo_rows]
  rw [sumTo_congr (h := fun u => sumTo (fun r => dot u (fun p => f (r * 8 + p)) * dot u (fun p => f (r * 8 + p))) 8) (fun u hu => sumTo_congr fun r hr => by rw [crossF_at f u r hr])]
  rw [sumTo_swap, ← sumTo_mul]
  exact sumTo_congr fun r hr => dot_square _
/-- The weight of what was turned. -/
theorem eight_weight (f : Nat → Int) : sumTo (fun i => eightF f i * eightF f i) 64 = 64 * sumTo (fun i => f i * f i) 64 := by
  unfold eightF
  rw [cross_weight, cross_weight]
  omega
end Go.Proofs.YtlejfkjanllgbaaGreatDoor

namespace Go.Proofs.YtlejfkjanllgbaaGreatDoor
set_option linter.unusedVariables false

theorem dot_add (u : Nat) (r s : Nat → Int) : dot u (fun p => r p + s p) = dot u r + dot u s := by
  unfold dot
  rw [← sumTo_add]
  exact sumTo_congr fun p hp => Int.mul_add _ _ _
theorem crossF_add (f g : Nat → Int) : crossF (fun i => f i + g i) = fun i => crossF f i + crossF g i := funext fun i => by
  unfold crossF
  exact dot_add _ _ _
theorem eightF_add (f g : Nat → Int) : eightF (fun i => f i + g i) = fun i => eightF f i + eightF g i := by
  unfold eightF
  rw [crossF_add f g, crossF_add]
theorem eightF_bd {M : Int} {f : Nat → Int} (h : ∀ i, i < 64 → -M ≤ f i ∧ f i ≤ M) : ∀ i, i < 64 → -(64 * M) ≤ eightF f i ∧ eightF f i ≤ 64 * M := fun i hi => by
  have := crossF_bd (crossF_bd h) i hi
  show -(64 * M) ≤ crossF (crossF f) i ∧ crossF (crossF f) i ≤ 64 * M
  omega
/-- What comes back of sums that are off by K at most is off by K at most. -/
theorem eight_near {f e : Nat → Int} {K : Int} (he : ∀ i, i < 64 → -K ≤ e i ∧ e i ≤ K) : ∀ i, i < 64 → -K ≤ (eightF (fun j => eightF f j + e j) i + 32) / 64 - f i ∧ (eightF (fun j => eightF f j + e j) i + 32) / 64 - f i ≤ K := fun i hi => by
  rw [eightF_add]
  have h1 := eight_eight f i hi
  have h2 := eightF_bd he i hi
  show -K ≤ (eightF (eightF f) i + eightF e i + 32) / 64 - f i ∧ (eightF (eightF f) i + eightF e i + 32) / 64 - f i ≤ K
  rw [h1]
  omega
theorem quo_near {a s : Int} (ha : 0 ≤ a) (hs : 1 ≤ s) : 0 ≤ (a + s / 2) / s ∧ (a + s / 2) / s * s - a ≤ s / 2 ∧ a - (a + s / 2) / s * s ≤ s / 2 := by
  have h0 : 0 ≤ (a + s / 2) / s := Int.ediv_nonneg (by omega) (by omega)
  have h1 := Int.mul_ediv_add_emod (a + s / 2) s
  have h2 := Int.emod_nonneg (a + s / 2) (show s ≠ 0 by omega)
  have h3 := Int.emod_lt_of_pos (a + s / 2) (show 0 < s by omega)
  rw [Int.mul_comm] at h1
  refine ⟨h0, by omega, by omega⟩
/-- What comes back of a large level is near the number: by half a step at most. -/
theorem large_near {w qp : Int} (hw : -16320 ≤ w ∧ w ≤ 16320) (hq : 0 ≤ qp ∧ qp ≤ 40) : (-5000 ≤ largeF w qp ∧ largeF w qp ≤ 5000) ∧ -(stepF qp / 2) ≤ largeB (largeF w qp) qp - w ∧ largeB (largeF w qp) qp - w ≤ stepF qp / 2 := by
  have hs := stepF_in qp hq
  have hF : largeF w qp = sgnF w ((absF w + stepF qp / 2) / stepF qp) := by unfold largeF; rw [if_pos ⟨by omega, hq⟩]
  have hB : ∀ x, -5000 ≤ x ∧ x ≤ 5000 → largeB x qp = x * stepF qp := fun x hx => by unfold largeB; rw [if_pos hx]
  rw [hF]
  clear hF
  generalize stepF qp = s at *
  have ha : 0 ≤ absF w ∧ absF w ≤ 16320 := by unfold absF; split <;> omega
  obtain ⟨l0, l1, l2⟩ := quo_near ha.1 (show 1 ≤ s by omega)
  generalize (absF w + s / 2) / s = l at *
  have l3 : l ≤ 5000 := by
    have h10 : l * 10 ≤ l * s := Int.mul_le_mul_of_nonneg_left hs.1 l0
    omega
  by_cases h0 : w < 0
  · have e1 : sgnF w l = -l := by unfold sgnF; rw [if_pos h0]
    have e2 : absF w = -w := by unfold absF; rw [if_pos h0]
    rw [e2] at l1 l2
    rw [e1, hB _ (by omega), Int.neg_mul]
    omega
  · have e1 : sgnF w l = l := by unfold sgnF; rw [if_neg h0]
    have e2 : absF w = w := by unfold absF; rw [if_neg h0]
    rw [e2] at l1 l2
    rw [e1, hB _ (by omega)]
    omega
/-- Of 64 numbers of -255 .. 255: levels, and what comes back of them. -/
theorem left_near {f : Nat → Int} {qp : Int} (hf : ∀ i, i < 64 → -255 ≤ f i ∧ f i ≤ 255) (hq : 0 ≤ qp ∧ qp ≤ 40) :
    (∀ i, i < 64 → -5000 ≤ largeF (eightF f i) qp ∧ largeF (eightF f i) qp ≤ 5000) ∧
    ∀ i, i < 64 → -(stepF qp / 2) ≤ (eightF (fun j => largeB (largeF (eightF f j) qp) qp) i + 32) / 64 - f i ∧ (eightF (fun j => largeB (largeF (eightF f j) qp) qp) i + 32) / 64 - f i ≤ stepF qp / 2 := by
  have hb := fun i hi => eightF_bd (M := 255) hf i hi
  refine ⟨fun i hi => (large_near (by have := hb i hi; omega) hq).1, fun i hi => ?_⟩
  have := eight_near (f := f) (e := fun j => largeB (largeF (eightF f j) qp) qp - eightF f j) (K := stepF qp / 2) (fun j hj => (large_near (by have := hb j hj; omega) hq).2) i hi
  rwa [show (fun j => eightF f j + (largeB (largeF (eightF f j) qp) qp - eightF f j)) = fun j => largeB (largeF (eightF f j) qp) qp from funext fun j => by omega] at this
end Go.Proofs.YtlejfkjanllgbaaGreatDoor

namespace Go.Proofs.YtlejfkjanllgbaaGreatDoor
set_option linter.unusedVariables false

/-- What a row a, b, c, d becomes, place by place. -/
def sumR (j : Nat) (a b c d : Int) : Int := match j with | 0 => a + b + c + d | 1 => 2 * a + b - c - 2 * d | 2 => a - b - c + d | _ => a - 2 * b + 2 * c - d
def bakR (j : Nat) (a b c d : Int) : Int := match j with | 0 => (a + c) + (b + d / 2) | 1 => (a - c) + (b / 2 - d) | 2 => (a - c) - (b / 2 - d) | _ => (a + c) - (b + d / 2)
/-- The four rows of sixteen numbers, each turned. -/
def rowsF (T : Nat → Int → Int → Int → Int → Int) (f : Nat → Int) (i : Nat) : Int := T (i % 4) (f (4 * (i / 4))) (f (4 * (i / 4) + 1)) (f (4 * (i / 4) + 2)) (f (4 * (i / 4) + 3))
/-- Columns as rows. -/
def flipF (f : Nat → Int) (i : Nat) : Int := f (i % 4 * 4 + i / 4)
def turnF (T : Nat → Int → Int → Int → Int → Int) (f : Nat → Int) : Nat → Int := flipF (rowsF T (flipF (rowsF T f)))
theorem rowsF_at (T : Nat → Int → Int → Int → Int → Int) (f : Nat → Int) (k j : Nat) (hj : j < 4) : rowsF T f (4 * k + j) = T j (f (4 * k)) (f (4 * k + 1)) (f (4 * k + 2)) (f (4 * k + 3)) := by
  unfold rowsF
  rw [show (4 * k + j) % 4 = j by omega, show (4 * k + j) / 4 = k by omega]
theorem flipF_at (f : Nat → Int) (k j : Nat) (hj : j < 4) (hk : k < 4) : flipF f (4 * k + j) = f (4 * j + k) := by
  unfold flipF
  rw [show (4 * k + j) % 4 * 4 + (4 * k + j) / 4 = 4 * j + k by omega]
/-- Numbers of at most M, of both signs. -/
def In (M : Int) (n : Nat) (f : Nat → Int) : Prop := ∀ i, i < n → -M ≤ f i ∧ f i ≤ M
theorem In.flip {M : Int} {f : Nat → Int} (h : In M 16 f) : In M 16 (flipF f) := fun i hi => h _ (by omega)
theorem In.sums {M : Int} {f : Nat → Int} (h : In M 16 f) : In (6 * M) 16 (rowsF sumR f) := fun i hi => by
  unfold rowsF
  have h0 := h (4 * (i / 4)) (by omega)
  have h1 := h (4 * (i / 4) + 1) (by omega)
  have h2 := h (4 * (i / 4) + 2) (by omega)
  have h3 := h (4 * (i / 4) + 3) (by omega)
  have hc : i % 4 = 0 ∨ i % 4 = 1 ∨ i % 4 = 2 ∨ i % 4 = 3 := by omega
  rcases hc with e | e | e | e <;> rw [e] <;> simp only [sumR] <;> omega
theorem In.baks {M : Int} {f : Nat → Int} (h : In M 16 f) (hM : 0 ≤ M) : In (4 * M + 2) 16 (rowsF bakR f) := fun i hi => by
  unfold rowsF
  have h0 := h (4 * (i / 4)) (by omega)
  have h1 := h (4 * (i / 4) + 1) (by omega)
  have h2 := h (4 * (i / 4) + 2) (by omega)
  have h3 := h (4 * (i / 4) + 3) (by omega)
  have hc : i % 4 = 0 ∨ i % 4 = 1 ∨ i % 4 = 2 ∨ i % 4 = 3 := by omega
  rcases hc with e | e | e | e <;> rw [e] <;> simp only [bakR] <;> omega
theorem In.turned {M : Int} {f : Nat → Int} (h : In M 16 f) : In (36 * M) 16 (turnF sumR f) := by
  have := h.sums.flip.sums.flip
  rwa [show 6 * (6 * M) = 36 * M by omega] at this
theorem In.back {M : Int} {f : Nat → Int} (h : In M 16 f) (hM : 0 ≤ M) : In (16 * M + 10) 16 (turnF bakR f) := by
  have := ((h.baks hM).flip.baks (by omega)).flip
  rwa [show 4 * (4 * M + 2) + 2 = 16 * M + 10 by omega] at this
theorem flip_zero : ∀ i, i < 16 → flipF (fun _ => 0) i = 0 := fun _ _ => rfl
/-- Noughts turn into noughts. -/
theorem sum_zero (j : Nat) : sumR j 0 0 0 0 = 0 := by unfold sumR; split <;> rfl
theorem bak_zero (j : Nat) : bakR j 0 0 0 0 = 0 := by unfold bakR; split <;> rfl
theorem turn_congr {T : Nat → Int → Int → Int → Int → Int} {f g : Nat → Int} (h : ∀ i, i < 16 → f i = g i) : ∀ i, i < 16 → turnF T f i = turnF T g i := fun i hi => by
  unfold turnF flipF rowsF
  have e : ∀ k, k < 16 → f k = g k := h
  simp only
  rw [e _ (by omega), e _ (by omega), e _ (by omega), e _ (by omega), e _ (by omega), e _ (by omega), e _ (by omega), e _ (by omega),
    e _ (by omega), e _ (by omega), e _ (by omega), e _ (by omega), e _ (by omega), e _ (by omega), e _ (by omega), e _ (by omega)]
theorem turn_zero {T : Nat → Int → Int → Int → Int → Int} (hT : ∀ j, T j 0 0 0 0 = 0) {f : Nat → Int} (h : ∀ i, i < 16 → f i = 0) : ∀ i, i < 16 → turnF T f i = f i := fun i hi => by
  rw [turn_congr (T := T) (g := fun _ => 0) h i hi, h i hi]
  unfold turnF flipF rowsF
  simp only [hT]
end Go.Proofs.YtlejfkjanllgbaaGreatDoor

namespace Go.Proofs.YtlejfkjanllgbaaGreatDoor
open Go.RowKit
set_option linter.unusedVariables false

theorem size44 : (Tryz.prog.info? 110).map (·.size) = some 16 := by kernel_rfl
theorem size42 : (Tryz.prog.info? 108).map (·.size) = some 16 := by kernel_rfl
theorem size41 : (Tryz.prog.info? 107).map (·.size) = some 4 := by kernel_rfl
theorem agg41 (w : World) : (isAgg 107).run Tryz.prog w = .ok true w := by
  unfold isAgg
  rw [Sem.run_bind, run_underlying Tryz.underlying107 w]
  rfl
theorem agg3 (w : World) : (isAgg 3).run Tryz.prog w = .ok false w := by
  unfold isAgg
  rw [Sem.run_bind, run_underlying Tryz.underlying3 w]
  rfl
theorem size3 : (Tryz.prog.info? 3).map (·.size) = some 1 := by kernel_rfl
theorem zero4 : (#[.int .i64 0, .int .i64 0, .int .i64 0, .int .i64 0] : Array Value) = arr 4 (fun _ => 0) := rfl

end Go.Proofs.YtlejfkjanllgbaaGreatDoor

namespace Go.Proofs.YtlejfkjanllgbaaGreatDoor
open Go.RowKit
set_option linter.unusedVariables false

def flipTo (f : Nat → Int) (k j i : Nat) : Int := if i % 4 < k ∨ (i % 4 = k ∧ i / 4 < j) then flipF f i else 0
theorem flipTo_hit (f : Nat → Int) (k j : Nat) (hk : k < 4) (hj : j < 4) : flipTo f k (j + 1) (j * 4 + k) = f (k * 4 + j) := by
  unfold flipTo flipF
  rw [if_pos (by omega)]
  congr 1
  omega
theorem flipTo_not (f : Nat → Int) (k j : Nat) (hk : k < 4) (hj : j < 4) : ∀ i, i ≠ j * 4 + k → flipTo f k (j + 1) i = flipTo f k j i := fun i hi => by
  unfold flipTo
  by_cases c : i % 4 < k ∨ (i % 4 = k ∧ i / 4 < j)
  · rw [if_pos c, if_pos (by omega)]
  · rw [if_neg c, if_neg (by omega)]
theorem flipTo_next (f : Nat → Int) (k : Nat) : arr 16 (flipTo f k 4) = arr 16 (flipTo f (k + 1) 0) := arr_congr fun i hi => by
  unfold flipTo
  by_cases c : i % 4 < k + 1
  · rw [if_pos (by omega), if_pos (by omega)]
  · rw [if_neg (by omega), if_neg (by omega)]
theorem flipTo_full (f : Nat → Int) : arr 16 (flipTo f 4 0) = arr 16 (flipF f) := arr_congr fun i hi => by
  unfold flipTo
  rw [if_pos (by omega)]
set_option maxHeartbeats 400000 in
theorem flipped_any (f : Nat → Int) (w : World) :
    Calls Tryz.prog 104 #[.agg (arr 16 f)] w fun e w' => e = .returned (.agg (arr 16 (flipF f))) ∧ Below w.heap.size w w' := by
  go_enter Tryz.func104, Tryz.ntmps104
  go_wp2_with (refine wpList_load_mid (by rfl) _ _ (by rfl) _ 0 (by rfl) (arr 16 f).toList _ (range_of_arr (((Blk.new w _ _).alloc _).alloc _) 0 16 (by omega)) Tryz.underlying108 (by rfl) (by rw [Array.length_toList, arr_size]; exact size42) ?_)
  generalize hW : World.alloc (World.alloc (World.alloc w _) _) _ = W
  have B1 : Blk W (w.heap.size + 1) (arr 16 (fun _ => 0)) 110 := by rw [← hW]; exact (Blk.new' _ _ (by simp)).alloc _
  have B2 : Blk W (w.heap.size + 1 + 1) (arr 16 (fun _ => 0)) 110 := by rw [← hW]; exact Blk.new' _ _ (by simp)
  have hb0 : Below w.heap.size w W := by rw [← hW]; exact (((Below.refl _ _).alloc (Nat.le_refl _) _).alloc (by simp) _).alloc (by simp; omega) _
  clear hW
  generalize hs : w.heap.size = s at *
  go_loopw [10] (fun i wr => ∃ k : Nat, k ≤ 4 ∧ i = .int .i64 (k : Int) ∧ Blk wr (s + 1) (arr 16 (fun _ => 0)) 110 ∧ Blk wr (s + 1 + 1) (arr 16 (flipTo f k 0)) 110 ∧ Below s w wr) (fun i _ => 4 - (intOf i).toNat)
  case atStart => exact ⟨0, by omega, rfl, B1, B2, hb0⟩
  case round =>
    obtain ⟨k, hk, rfl, b1, b2, hb⟩ := hrel
    clear B1 B2 hb0
    by_cases hlt : k < 4
    · have l0 : (0 : Int) ≤ (k : Int) := by omega
      have l1 : (k : Int) < 4 := by omega
      have hidx : ∀ W, (Instr.index 108 (.agg (arr 16 f)) (.int .i64 (k : Int))).run Tryz.prog W = .ok (.agg (arr 4 (fun i => f (k * 4 + i)))) W := fun W => index_row Tryz.underlying108 size41 (agg41 W) f k hlt rfl
      have hst := run_storeCells_new (P := Tryz.prog) wr 107 #[.int .i64 0, .int .i64 0, .int .i64 0, .int .i64 0] (arr 4 (fun i => f (k * 4 + i))) (by rw [arr_size]; exact size41) (by rw [arr_size]; rfl) (arr_one _ _)
      go_wp2_with (refine wpList_load_mid (by rfl) _ _ (by rfl) _ 0 (by rfl) (arr 4 (fun i => f (k * 4 + i))).toList _ (range_of_arr (Blk.new wr _ _) 0 4 (by omega)) Tryz.underlying107 (by rfl) (by rw [Array.length_toList, arr_size]; exact size41) ?_)
      generalize hV : World.alloc wr _ = V
      have hbV : Below s w V := by rw [← hV]; exact hb.alloc (by rw [← hs]; exact hb.size) _
      have B1 : Blk V (s + 1) (arr 16 (fun _ => 0)) 110 := by rw [← hV]; exact b1.alloc _
      have B2 : Blk V (s + 1 + 1) (arr 16 (flipTo f k 0)) 110 := by rw [← hV]; exact b2.alloc _
      clear hV hidx hst b1 b2 hb
      go_loopw [15] (fun i wr => ∃ j : Nat, j ≤ 4 ∧ i = .int .i64 (j : Int) ∧ Blk wr (s + 1) (arr 16 (fun _ => 0)) 110 ∧ Blk wr (s + 1 + 1) (arr 16 (flipTo f k j)) 110 ∧ Below s w wr) (fun i _ => 4 - (intOf i).toNat)
      case atStart => exact ⟨0, by omega, rfl, B1, B2, hbV⟩
      case round =>
        obtain ⟨j, hj, rfl, b1, b2, hb⟩ := hrel
        clear B1 B2 hbV
        have q0 : (0 : Int) ≤ (j : Int) := by omega
        by_cases hlj : j < 4
        · have q1 : (j : Int) < 4 := by omega
          have hidx : ∀ W, (Instr.index 107 (.agg (arr 4 (fun i => f (k * 4 + i)))) (.int .i64 (j : Int))).run Tryz.prog W = .ok (.int .i64 (f (k * 4 + j))) W := fun W => index_num Tryz.underlying107 size3 (agg3 W) _ j hlj
          have hc : wr.cell? ⟨s + 1 + 1, j * 4 + k, none⟩ = some (.int .i64 (flipTo f k j (j * 4 + k))) := by rw [b2.cell, arr_get _ (by omega)]
          have hf : wr.frozen? ⟨s + 1 + 1, j * 4 + k, none⟩ = false := b2.frozen _
          have hset := b2.set (j * 4 + k) (.int .i64 (f (k * 4 + j))) (by rw [arr_size]; omega)
          rw [arr_set (g := flipTo f k (j + 1)) _ (flipTo_hit f k j hlt hlj) (flipTo_not f k j hlt hlj)] at hset
          have hoth := b1.other ⟨s + 1 + 1, j * 4 + k, none⟩ (.int .i64 (f (k * 4 + j))) (by simp)
          have hbb := hb.setCell (p := ⟨s + 1 + 1, j * 4 + k, none⟩) (by simp; omega) (.int .i64 (f (k * 4 + j)))
          go_wp2_with fail
          refine ⟨⟨j + 1, by omega, by go_num, hoth, hset, hbb⟩, ?_⟩
          simp [intOf]; omega
        · obtain rfl : j = 4 := by omega
          rw [flipTo_next f k] at b2
          go_wp2_with fail
          refine ⟨⟨k + 1, by omega, by go_num, b1, b2, hb⟩, ?_⟩
          simp [intOf]; omega
    · obtain rfl : k = 4 := by omega
      rw [flipTo_full f] at b2
      have HZ : Hid (Blk (wr.setCells (s + 1) 0 (arr 16 (flipF f)).toList) (s + 1) (arr 16 (flipF f)) 110) := arr_store (k := flipF f) b1 0 16 (by omega) (fun i hi => by rw [Nat.zero_add]) (fun i hi h => by omega)
      have hbb := below_setCells (g := s + 1) (by omega) (arr 16 (flipF f)).toList 0 wr hb
      have rg : wr.rangeAt (s + 1 + 1) 0 (arr 16 (flipF f)).toList := by have := range_of_arr b2 0 16 (by omega); simpa only [Nat.zero_add] using this
      have th := there_of_arr b1 0 16 (by omega)
      clear b1 b2 hb hlt hk
      go_wp2_with (first
        | ((with_reducible refine at_load ?_); refine load_arr rfl _ _ rfl (s + 1 + 1) 0 rfl 16 (flipF f) rg Tryz.underlying110 rfl size44 ?_; simp only [Act.put, List.setIfInBounds_toArray, List.set_cons_zero, List.set_cons_succ])
        | ((with_reducible refine at_store ?_); refine store_arr rfl _ _ _ rfl (s + 1) 0 rfl 16 (flipF f) rfl th size44 ?_; clear th rg; generalize World.setCells wr (s + 1) 0 (arr 16 (flipF f)).toList = wz at *))
      refine bodyPost_ret (results_cell_row rfl _ _ (s + 1) 110 _ (0, 0) _ rfl HZ.out Tryz.underlying110 rfl (by rw [arr_size]; exact size44)) rfl ?_
      exact ⟨rfl, by rw [hs]; exact hbb⟩
end Go.Proofs.YtlejfkjanllgbaaGreatDoor

namespace Go.Proofs.YtlejfkjanllgbaaGreatDoor
open Go.RowKit
set_option linter.unusedVariables false

set_option maxHeartbeats 400000 in
theorem half_any (n : Int) (w : World) : Calls Tryz.prog 108 #[.int .i64 n] w fun e w' => e = .returned (.int .i64 (n / 2)) ∧ w' = w := by
  go_enter Tryz.func108, Tryz.ntmps108
  go_wp2
  go_ret
  exact ⟨by simp, rfl⟩
set_option maxHeartbeats 400000 in
theorem down_any (n : Int) (w : World) (h0 : -10000000000 ≤ n) (h1 : n ≤ 10000000000) : Calls Tryz.prog 89 #[.int .i64 n] w fun e w' => e = .returned (.int .i64 ((n + 32) / 64)) ∧ w' = w := by
  go_enter Tryz.func89, Tryz.ntmps89
  go_wp2
  go_ret
  exact ⟨by simp, rfl⟩
set_option maxHeartbeats 800000 in
theorem sums_any (r : Nat → Int) (w : World) (hr : In 100000000 4 r) :
    Calls Tryz.prog 76 #[.agg (arr 4 r)] w fun e w' => e = .returned (.agg (arr 4 (fun j => sumR j (r 0) (r 1) (r 2) (r 3)))) ∧ Below w.heap.size w w' := by
  obtain ⟨a0, a1⟩ := hr 0 (by omega)
  obtain ⟨b0, b1⟩ := hr 1 (by omega)
  obtain ⟨c0, c1⟩ := hr 2 (by omega)
  obtain ⟨d0, d1⟩ := hr 3 (by omega)
  go_enter Tryz.func76, Tryz.ntmps76
  go_wp2_with fail
  generalize hW : World.alloc (World.alloc w _) _ = W
  have B0 : Blk W w.heap.size (arr 4 r) 107 := by rw [← hW]; exact (Blk.new w _ _).alloc _
  have B1 : Blk W (w.heap.size + 1) (arr 4 (fun _ => 0)) 107 := by rw [← hW]; exact Blk.new' _ _ (by simp)
  have hb0 : Below w.heap.size w W := by rw [← hW]; exact ((Below.refl _ _).alloc (Nat.le_refl _) _).alloc (by simp) _
  clear hW
  generalize hs : w.heap.size = s at *
  have e0 : W.cell? ⟨s, 0, none⟩ = some (.int .i64 (r 0)) := by rw [B0.cell, arr_get r (by omega)]
  have e1 : W.cell? ⟨s, 1, none⟩ = some (.int .i64 (r 1)) := by rw [B0.cell, arr_get r (by omega)]
  have e2 : W.cell? ⟨s, 2, none⟩ = some (.int .i64 (r 2)) := by rw [B0.cell, arr_get r (by omega)]
  have e3 : W.cell? ⟨s, 3, none⟩ = some (.int .i64 (r 3)) := by rw [B0.cell, arr_get r (by omega)]
  clear B0
  have th := there_of_arr B1 0 4 (by omega)
  obtain ⟨a, ha⟩ : ∃ a, r 0 = a := ⟨_, rfl⟩
  have HA : Hid (r 0 = a) := ha
  rw [ha] at a0 a1 e0
  clear ha
  obtain ⟨b, hb⟩ : ∃ b, r 1 = b := ⟨_, rfl⟩
  have HB : Hid (r 1 = b) := hb
  rw [hb] at b0 b1 e1
  clear hb
  obtain ⟨c, hc⟩ : ∃ c, r 2 = c := ⟨_, rfl⟩
  have HC : Hid (r 2 = c) := hc
  rw [hc] at c0 c1 e2
  clear hc
  obtain ⟨d, hd⟩ : ∃ d, r 3 = d := ⟨_, rfl⟩
  have HD : Hid (r 3 = d) := hd
  rw [hd] at d0 d1 e3
  clear hd
  have HZ : ∀ W', Blk W' (s + 1) (arr 4 (fun _ => 0)) 107 → Blk (W'.setCells (s + 1) 0 (arr 4 (fun j => sumR j a b c d)).toList) (s + 1) (arr 4 (fun j => sumR j a b c d)) 107 := fun W' h => arr_store h 0 4 (by omega) (fun i hi => by rw [Nat.zero_add]) (fun i hi h => by omega)
  have HH : Hid (∀ W', Blk W' (s + 1) (arr 4 (fun _ => 0)) 107 → Blk (W'.setCells (s + 1) 0 (arr 4 (fun j => sumR j a b c d)).toList) (s + 1) (arr 4 (fun j => sumR j a b c d)) 107) := HZ
  clear HZ
  go_quiet (fail)
  have b1 : Blk (W.drewN nq) (s + 1) (arr 4 (fun _ => 0)) 107 := B1
  have hb1 := below_setCells (g := s + 1) (by omega) (arr 4 (fun j => sumR j a b c d)).toList 0 _ (below_drewN hb0 nq)
  have hz : Hid (Blk ((W.drewN nq).setCells (s + 1) 0 (arr 4 (fun j => sumR j a b c d)).toList) (s + 1) (arr 4 (fun j => sumR j a b c d)) 107) := HH.out _ b1
  have t1 : (W.drewN nq).there (s + 1) 0 4 := there_of_arr b1 0 4 (by omega)
  clear HH B1 hb0 th b1 e0 e1 e2 e3
  go_wp2_with ((with_reducible refine at_store ?_); refine store_arr rfl _ _ _ rfl (s + 1) 0 rfl 4 (fun j => sumR j a b c d) rfl t1 size41 ?_; clear t1; generalize World.setCells (W.drewN nq) (s + 1) 0 (arr 4 (fun j => sumR j a b c d)).toList = wz at *)
  refine bodyPost_ret (results_cell_row rfl _ _ (s + 1) 107 _ (0, 0) _ rfl hz.out Tryz.underlying107 rfl (by rw [arr_size]; exact size41)) rfl ?_
  exact ⟨by rw [HA.out, HB.out, HC.out, HD.out], by rw [hs]; exact hb1⟩
set_option maxHeartbeats 800000 in
theorem baks_any (r : Nat → Int) (w : World) (hr : In 100000000 4 r) :
    Calls Tryz.prog 88 #[.agg (arr 4 r)] w fun e w' => e = .returned (.agg (arr 4 (fun j => bakR j (r 0) (r 1) (r 2) (r 3)))) ∧ Below w.heap.size w w' := by
  obtain ⟨a0, a1⟩ := hr 0 (by omega)
  obtain ⟨b0, b1⟩ := hr 1 (by omega)
  obtain ⟨c0, c1⟩ := hr 2 (by omega)
  obtain ⟨d0, d1⟩ := hr 3 (by omega)
  go_enter Tryz.func88, Tryz.ntmps88
  go_wp2_with fail
  generalize hW : World.alloc (World.alloc w _) _ = W
  have B0 : Blk W w.heap.size (arr 4 r) 107 := by rw [← hW]; exact (Blk.new w _ _).alloc _
  have B1 : Blk W (w.heap.size + 1) (arr 4 (fun _ => 0)) 107 := by rw [← hW]; exact Blk.new' _ _ (by simp)
  have hb0 : Below w.heap.size w W := by rw [← hW]; exact ((Below.refl _ _).alloc (Nat.le_refl _) _).alloc (by simp) _
  clear hW
  generalize hs : w.heap.size = s at *
  have e0 : W.cell? ⟨s, 0, none⟩ = some (.int .i64 (r 0)) := by rw [B0.cell, arr_get r (by omega)]
  have e1 : W.cell? ⟨s, 1, none⟩ = some (.int .i64 (r 1)) := by rw [B0.cell, arr_get r (by omega)]
  have e2 : W.cell? ⟨s, 2, none⟩ = some (.int .i64 (r 2)) := by rw [B0.cell, arr_get r (by omega)]
  have e3 : W.cell? ⟨s, 3, none⟩ = some (.int .i64 (r 3)) := by rw [B0.cell, arr_get r (by omega)]
  clear B0
  have th := there_of_arr B1 0 4 (by omega)
  obtain ⟨a, ha⟩ : ∃ a, r 0 = a := ⟨_, rfl⟩
  have HA : Hid (r 0 = a) := ha
  rw [ha] at a0 a1 e0
  clear ha
  obtain ⟨b, hb⟩ : ∃ b, r 1 = b := ⟨_, rfl⟩
  have HB : Hid (r 1 = b) := hb
  rw [hb] at b0 b1 e1
  clear hb
  obtain ⟨c, hc⟩ : ∃ c, r 2 = c := ⟨_, rfl⟩
  have HC : Hid (r 2 = c) := hc
  rw [hc] at c0 c1 e2
  clear hc
  obtain ⟨d, hd⟩ : ∃ d, r 3 = d := ⟨_, rfl⟩
  have HD : Hid (r 3 = d) := hd
  rw [hd] at d0 d1 e3
  clear hd
  have HZ : ∀ W', Blk W' (s + 1) (arr 4 (fun _ => 0)) 107 → Blk (W'.setCells (s + 1) 0 (arr 4 (fun j => bakR j a b c d)).toList) (s + 1) (arr 4 (fun j => bakR j a b c d)) 107 := fun W' h => arr_store h 0 4 (by omega) (fun i hi => by rw [Nat.zero_add]) (fun i hi h => by omega)
  have HH : Hid (∀ W', Blk W' (s + 1) (arr 4 (fun _ => 0)) 107 → Blk (W'.setCells (s + 1) 0 (arr 4 (fun j => bakR j a b c d)).toList) (s + 1) (arr 4 (fun j => bakR j a b c d)) 107) := HZ
  clear HZ
  go_quiet (fail)
  have b1 : Blk (W.drewN nq) (s + 1) (arr 4 (fun _ => 0)) 107 := B1
  have hb1 := below_setCells (g := s + 1) (by omega) (arr 4 (fun j => bakR j a b c d)).toList 0 _ (below_drewN hb0 nq)
  have hz : Hid (Blk ((W.drewN nq).setCells (s + 1) 0 (arr 4 (fun j => bakR j a b c d)).toList) (s + 1) (arr 4 (fun j => bakR j a b c d)) 107) := HH.out _ b1
  have t1 : (W.drewN nq).there (s + 1) 0 4 := there_of_arr b1 0 4 (by omega)
  clear HH B1 hb0 th b1 e0 e1 e2 e3
  go_wp2_with (first | (go_at_call 108; refine (half_any _ _).mono ?_; rintro e w1 ⟨rfl, hw⟩; subst w1) | ((with_reducible refine at_store ?_); refine store_arr rfl _ _ _ rfl (s + 1) 0 rfl 4 (fun j => bakR j a b c d) rfl t1 size41 ?_; clear t1; generalize World.setCells (W.drewN nq) (s + 1) 0 (arr 4 (fun j => bakR j a b c d)).toList = wz at *))
  refine bodyPost_ret (results_cell_row rfl _ _ (s + 1) 107 _ (0, 0) _ rfl hz.out Tryz.underlying107 rfl (by rw [arr_size]; exact size41)) rfl ?_
  exact ⟨by rw [HA.out, HB.out, HC.out, HD.out], by rw [hs]; exact hb1⟩
end Go.Proofs.YtlejfkjanllgbaaGreatDoor

namespace Go.Proofs.YtlejfkjanllgbaaGreatDoor
open Go.RowKit
set_option linter.unusedVariables false

/-- The first k rows are turned. -/
def rowsTo (T : Nat → Int → Int → Int → Int → Int) (f : Nat → Int) (k i : Nat) : Int := if i < 4 * k then rowsF T f i else 0
theorem rowsTo_none (T : Nat → Int → Int → Int → Int → Int) (f : Nat → Int) : arr 16 (rowsTo T f 0) = arr 16 (fun _ => 0) := arr_congr fun i hi => by
  unfold rowsTo
  rw [if_neg (by omega)]
theorem rowsTo_full (T : Nat → Int → Int → Int → Int → Int) (f : Nat → Int) : arr 16 (rowsTo T f 4) = arr 16 (rowsF T f) := arr_congr fun i hi => by
  unfold rowsTo
  rw [if_pos (by omega)]

set_option maxHeartbeats 1600000 in
theorem sums_rows (f : Nat → Int) (w : World) (hf : In 100000000 16 f) :
    Calls Tryz.prog 103 #[.agg (arr 16 f), .func (Fn.func 76) #[] #[]] w fun e w' => e = .returned (.agg (arr 16 (rowsF sumR f))) ∧ Below w.heap.size w w' := by
  have HC : Hid (∀ w' (r : Nat → Int), In 100000000 4 r → Calls Tryz.prog 76 #[.agg (arr 4 r)] w' (fun e w'' => e = .returned (.agg (arr 4 (fun j => sumR j (r 0) (r 1) (r 2) (r 3)))) ∧ Below w'.heap.size w' w'')) := fun w' r hr => sums_any r w' hr
  go_enter Tryz.func103, Tryz.ntmps103
  go_wp2_with ((with_reducible refine at_load ?_); refine load_arr rfl _ _ rfl _ 0 rfl 16 f (range_all (((Blk.new w _ _).alloc _).alloc _)) Tryz.underlying108 rfl size42 ?_; simp only [Act.put, List.setIfInBounds_toArray, List.set_cons_zero, List.set_cons_succ])
  generalize hW : World.alloc (World.alloc (World.alloc w _) _) _ = W
  have B0 : Blk W w.heap.size (arr 16 f) 110 := by rw [← hW]; exact ((Blk.new w _ _).alloc _).alloc _
  have B1 : Blk W (w.heap.size + 1) (arr 16 (fun _ => 0)) 110 := by rw [← hW]; exact (Blk.new' _ _ (by simp)).alloc _
  have B2 : Blk W (w.heap.size + 1 + 1) (arr 16 (fun _ => 0)) 110 := by rw [← hW]; exact Blk.new' _ _ (by simp)
  have hb0 : Below w.heap.size w W := by rw [← hW]; exact (((Below.refl _ _).alloc (Nat.le_refl _) _).alloc (by simp) _).alloc (by simp; omega) _
  clear hW
  generalize hs : w.heap.size = s at *
  go_loopw [10] (fun i wr => ∃ k : Nat, k ≤ 4 ∧ i = .int .i64 (k : Int) ∧ Blk wr s (arr 16 f) 110 ∧ Blk wr (s + 1) (arr 16 (fun _ => 0)) 110 ∧ Blk wr (s + 1 + 1) (arr 16 (rowsTo sumR f k)) 110 ∧ Below s w wr) (fun i _ => 4 - (intOf i).toNat)
  case atStart => exact ⟨0, by omega, rfl, B0, B1, by rw [rowsTo_none]; exact B2, hb0⟩
  case round =>
    obtain ⟨k, hk, rfl, b0, b1, b2, hb⟩ := hrel
    clear B0 B1 B2 hb0
    by_cases hlt : k < 4
    · have l0 : (0 : Int) ≤ (k : Int) := by omega
      have l1 : (k : Int) < 4 := by omega
      have hidx : ∀ W, (Instr.index 108 (.agg (arr 16 f)) (.int .i64 (k : Int))).run Tryz.prog W = .ok (.agg (arr 4 (fun i => f (k * 4 + i)))) W := fun W => index_row Tryz.underlying108 size41 (agg41 W) f k hlt rfl
      have hst := run_storeCells_new (P := Tryz.prog) wr 107 #[.int .i64 0, .int .i64 0, .int .i64 0, .int .i64 0] (arr 4 (fun i => f (k * 4 + i))) (by rw [arr_size]; exact size41) (by rw [arr_size]; rfl) (arr_one _ _)
      go_wp2_with fail
      generalize hV : World.alloc wr _ = V
      have hbV : Below s w V := by rw [← hV]; exact hb.alloc (by rw [← hs]; exact hb.size) _
      have B0 : Blk V s (arr 16 f) 110 := by rw [← hV]; exact b0.alloc _
      have B1 : Blk V (s + 1) (arr 16 (fun _ => 0)) 110 := by rw [← hV]; exact b1.alloc _
      have B2 : Blk V (s + 1 + 1) (arr 16 (rowsTo sumR f k)) 110 := by rw [← hV]; exact b2.alloc _
      have B3 : Blk V wr.heap.size (arr 4 (fun i => f (k * 4 + i))) 107 := by rw [← hV]; exact Blk.new wr _ _
      clear hV hidx hst b0 b1 b2 hb
      generalize wr.heap.size = r at *
      obtain ⟨ρ, hρ⟩ : ∃ ρ : Nat → Int, ρ = fun i => f (k * 4 + i) := ⟨_, rfl⟩
      obtain ⟨τ, hτ⟩ : ∃ τ : Nat → Int, τ = fun j => sumR j (ρ 0) (ρ 1) (ρ 2) (ρ 3) := ⟨_, rfl⟩
      have HK : Hid (∀ w', Calls Tryz.prog 76 #[.agg (arr 4 ρ)] w' (fun e w'' => e = .returned (.agg (arr 4 τ)) ∧ Below w'.heap.size w' w'')) := fun w' => by
        rw [hτ]
        exact HC.out w' ρ (by rw [hρ]; exact fun i hi => hf _ (by omega))
      have HT : Hid (∀ W', Blk W' (s + 1 + 1) (arr 16 (rowsTo sumR f k)) 110 → Blk (W'.setCells (s + 1 + 1) (k * 4) (arr 4 τ).toList) (s + 1 + 1) (arr 16 (rowsTo sumR f (k + 1))) 110) := fun W' h => by
        refine arr_store h (k * 4) 4 (by omega) (fun i hi => ?_) (fun i hi ho => ?_)
        · unfold rowsTo
          rw [if_pos (by omega), Nat.mul_comm, rowsF_at _ _ _ _ hi, hτ, hρ, Nat.mul_comm k 4]
          rfl
        · unfold rowsTo
          by_cases c : i < 4 * k
          · rw [if_pos (by omega), if_pos c]
          · rw [if_neg (by omega), if_neg c]
      rw [← hρ] at B3
      clear HC
      rcases k with _ | p
      · clear hρ hτ
        go_quiet (fail)
        have b3 : Blk (V.drewN nq) r (arr 4 ρ) 107 := B3
        have hbq := below_drewN hbV nq
        have b0 : Blk (V.drewN nq) s (arr 16 f) 110 := B0
        have b1 : Blk (V.drewN nq) (s + 1) (arr 16 (fun _ => 0)) 110 := B1
        have b2 : Blk (V.drewN nq) (s + 1 + 1) (arr 16 (rowsTo sumR f 0)) 110 := B2
        clear B0 B1 B2 B3 hbV
        generalize V.drewN nq = U at *
        go_wp2_with (first
          | ((with_reducible refine at_load ?_); refine load_arr rfl _ _ rfl r 0 rfl 4 ρ (range_all b3) Tryz.underlying107 rfl size41 ?_; simp only [Act.put, List.setIfInBounds_toArray, List.set_cons_zero, List.set_cons_succ])
          | (go_at_call 76; refine (HK.out _).mono ?_; rintro e w2 ⟨rfl, hc2⟩)
          | ((with_reducible refine at_store ?_); refine store_arr rfl _ _ _ rfl (s + 1 + 1) (0 * 4) rfl 4 τ rfl (there_of_arr (b2.below hc2 b2.lt) (0 * 4) 4 (by omega)) size41 ?_))
        have hsz : s ≤ U.heap.size := by rw [← hs]; exact hbq.size
        have z2 := HT.out w2 (b2.below hc2 b2.lt)
        have z1 := Blk.others (show s + 1 ≠ s + 1 + 1 by omega) (arr 4 τ).toList (0 * 4) (b1.below hc2 b1.lt)
        have z0 := Blk.others (show s ≠ s + 1 + 1 by omega) (arr 4 τ).toList (0 * 4) (b0.below hc2 b0.lt)
        have zb := below_setCells (g := s + 1 + 1) (by omega) (arr 4 τ).toList (0 * 4) w2 (hbq.trans (hc2.mono hsz))
        refine ⟨⟨1, by omega, rfl, z0, z1, z2, zb⟩, ?_⟩
        simp [intOf]
      · have hpc : ((p + 1 : Nat) : Int) = (p : Int) + 1 := by omega
        have HS : Hid (∀ W' : World, Blk W' (s + 1 + 1) (arr 16 (rowsTo sumR f (p + 1))) 110 → (∀ i, i < 4 → ρ i = f (p * 4 + i)) → W'.rangeAt (s + 1 + 1) (p * 4) (arr 4 τ).toList) := fun W' h he => by
          have e := range_of_arr h (p * 4) 4 (by omega)
          rwa [arr_congr (g := τ) (fun i hi => by
            unfold rowsTo
            rw [if_pos (by omega), Nat.mul_comm p 4, rowsF_at _ _ _ _ hi, hτ]
            simp only [he 0 (by omega), he 1 (by omega), he 2 (by omega), he 3 (by omega)]
            rw [Nat.mul_comm p 4]
            rfl)] at e
        clear hρ hτ
        have d0 : V.cell? ⟨r, 0, none⟩ = some (.int .i64 (ρ 0)) := by rw [B3.cell, arr_get ρ (by omega)]
        have d1 : V.cell? ⟨r, 1, none⟩ = some (.int .i64 (ρ 1)) := by rw [B3.cell, arr_get ρ (by omega)]
        have d2 : V.cell? ⟨r, 2, none⟩ = some (.int .i64 (ρ 2)) := by rw [B3.cell, arr_get ρ (by omega)]
        have d3 : V.cell? ⟨r, 3, none⟩ = some (.int .i64 (ρ 3)) := by rw [B3.cell, arr_get ρ (by omega)]
        have g0 : V.cell? ⟨s, p * 4, none⟩ = some (.int .i64 (f (p * 4 + 0))) := by rw [B0.cell, arr_get f (by omega)]; rfl
        have g1 : V.cell? ⟨s, p * 4 + 1, none⟩ = some (.int .i64 (f (p * 4 + 1))) := by rw [B0.cell, arr_get f (by omega)]
        have g2 : V.cell? ⟨s, p * 4 + 2, none⟩ = some (.int .i64 (f (p * 4 + 2))) := by rw [B0.cell, arr_get f (by omega)]
        have g3 : V.cell? ⟨s, p * 4 + 3, none⟩ = some (.int .i64 (f (p * 4 + 3))) := by rw [B0.cell, arr_get f (by omega)]
        have heq : ∀ W : World, (Op.equalIn 10000 107 (.agg (arr 4 ρ)) (.agg (arr 4 (fun i => f (p * 4 + i))))).run Tryz.prog W = .ok ((List.range 4).all (fun i => ρ i == f (p * 4 + i))) W := fun W => eq_nums W 9998 107 3 4 .i64 Tryz.underlying107 size3 (agg3 W) Tryz.underlying3 _ _
        rw [show arr 4 ρ = #[.int .i64 (ρ 0), .int .i64 (ρ 1), .int .i64 (ρ 2), .int .i64 (ρ 3)] from rfl, show arr 4 (fun i => f (p * 4 + i)) = #[.int .i64 (f (p * 4 + 0)), .int .i64 (f (p * 4 + 1)), .int .i64 (f (p * 4 + 2)), .int .i64 (f (p * 4 + 3))] from rfl] at heq
        have q0 : (0 : Int) ≤ (p : Int) := by omega
        have q1 : (p : Int) < 3 := by omega
        have hpos : (0 : Int) < ((p + 1 : Nat) : Int) := by omega
        rw [hpc] at l0 l1 hpos
        cases hbb : (List.range 4).all (fun i => ρ i == f (p * 4 + i)) with
        | true =>
          have HE : Hid (∀ i, i < 4 → ρ i = f (p * 4 + i)) := all_eq_iff.1 hbb
          rw [hbb] at heq
          clear hbb
          generalize f (p * 4 + 0) = y0 at *
          generalize f (p * 4 + 1) = y1 at *
          generalize f (p * 4 + 2) = y2 at *
          generalize f (p * 4 + 3) = y3 at *
          generalize ρ 0 = x0 at *
          generalize ρ 1 = x1 at *
          generalize ρ 2 = x2 at *
          generalize ρ 3 = x3 at *
          rw [hpc]
          go_quiet (fail)
          have b0 : Blk (V.drewN nq) s (arr 16 f) 110 := B0
          have b1 : Blk (V.drewN nq) (s + 1) (arr 16 (fun _ => 0)) 110 := B1
          have b2 : Blk (V.drewN nq) (s + 1 + 1) (arr 16 (rowsTo sumR f (p + 1))) 110 := B2
          have hbq := below_drewN hbV nq
          clear B0 B1 B2 B3 hbV d0 d1 d2 d3 g0 g1 g2 g3 heq
          generalize V.drewN nq = U at *
          have rg := HS.out U b2 HE.out
          have th := there_of_arr b2 ((p + 1) * 4) 4 (by omega)
          go_wp2_with (first
            | ((with_reducible refine at_load ?_); refine load_arr rfl _ _ rfl (s + 1 + 1) (p * 4) rfl 4 τ rg Tryz.underlying107 rfl size41 ?_; simp only [Act.put, List.setIfInBounds_toArray, List.set_cons_zero, List.set_cons_succ])
            | ((with_reducible refine at_store ?_); refine store_arr rfl _ _ _ rfl (s + 1 + 1) ((p + 1) * 4) rfl 4 τ rfl th size41 ?_))
          have z2 := HT.out U b2
          have z1 := Blk.others (show s + 1 ≠ s + 1 + 1 by omega) (arr 4 τ).toList ((p + 1) * 4) b1
          have z0 := Blk.others (show s ≠ s + 1 + 1 by omega) (arr 4 τ).toList ((p + 1) * 4) b0
          have zb := below_setCells (g := s + 1 + 1) (by omega) (arr 4 τ).toList ((p + 1) * 4) U hbq
          refine ⟨⟨p + 1 + 1, by omega, by go_num, z0, z1, z2, zb⟩, ?_⟩
          simp [intOf]; omega
        | false =>
          rw [hbb] at heq
          clear hbb HS
          generalize f (p * 4 + 0) = y0 at *
          generalize f (p * 4 + 1) = y1 at *
          generalize f (p * 4 + 2) = y2 at *
          generalize f (p * 4 + 3) = y3 at *
          generalize ρ 0 = x0 at *
          generalize ρ 1 = x1 at *
          generalize ρ 2 = x2 at *
          generalize ρ 3 = x3 at *
          rw [hpc]
          go_quiet (fail)
          have b3 : Blk (V.drewN nq) r (arr 4 ρ) 107 := B3
          have hbq := below_drewN hbV nq
          have b0 : Blk (V.drewN nq) s (arr 16 f) 110 := B0
          have b1 : Blk (V.drewN nq) (s + 1) (arr 16 (fun _ => 0)) 110 := B1
          have b2 : Blk (V.drewN nq) (s + 1 + 1) (arr 16 (rowsTo sumR f (p + 1))) 110 := B2
          clear B0 B1 B2 B3 hbV d0 d1 d2 d3 g0 g1 g2 g3 heq
          generalize V.drewN nq = U at *
          go_wp2_with (first
            | ((with_reducible refine at_load ?_); refine load_arr rfl _ _ rfl r 0 rfl 4 ρ (range_all b3) Tryz.underlying107 rfl size41 ?_; simp only [Act.put, List.setIfInBounds_toArray, List.set_cons_zero, List.set_cons_succ])
            | (go_at_call 76; refine (HK.out _).mono ?_; rintro e w2 ⟨rfl, hc2⟩)
            | ((with_reducible refine at_store ?_); refine store_arr rfl _ _ _ rfl (s + 1 + 1) ((p + 1) * 4) rfl 4 τ rfl (there_of_arr (b2.below hc2 b2.lt) ((p + 1) * 4) 4 (by omega)) size41 ?_))
          have hsz : s ≤ U.heap.size := by rw [← hs]; exact hbq.size
          have z2 := HT.out w2 (b2.below hc2 b2.lt)
          have z1 := Blk.others (show s + 1 ≠ s + 1 + 1 by omega) (arr 4 τ).toList ((p + 1) * 4) (b1.below hc2 b1.lt)
          have z0 := Blk.others (show s ≠ s + 1 + 1 by omega) (arr 4 τ).toList ((p + 1) * 4) (b0.below hc2 b0.lt)
          have zb := below_setCells (g := s + 1 + 1) (by omega) (arr 4 τ).toList ((p + 1) * 4) w2 (hbq.trans (hc2.mono hsz))
          refine ⟨⟨p + 1 + 1, by omega, by go_num, z0, z1, z2, zb⟩, ?_⟩
          simp [intOf]; omega
    · obtain rfl : k = 4 := by omega
      rw [rowsTo_full] at b2
      obtain ⟨ρ, hρ⟩ : ∃ ρ, ρ = rowsF sumR f := ⟨_, rfl⟩
      have HR : Hid (rowsF sumR f = ρ) := hρ.symm
      rw [← hρ] at b2
      clear hρ HC
      have HZ : Hid (Blk (wr.setCells (s + 1) 0 (arr 16 ρ).toList) (s + 1) (arr 16 ρ) 110) := arr_store (k := ρ) b1 0 16 (by omega) (fun i hi => by rw [Nat.zero_add]) (fun i hi h => by omega)
      have hbb := below_setCells (g := s + 1) (by omega) (arr 16 ρ).toList 0 wr hb
      have rg := range_all b2
      have th := there_of_arr b1 0 16 (by omega)
      clear b0 b1 b2 hb hlt hk
      go_wp2_with (first
        | ((with_reducible refine at_load ?_); refine load_arr rfl _ _ rfl (s + 1 + 1) 0 rfl 16 ρ rg Tryz.underlying110 rfl size44 ?_; simp only [Act.put, List.setIfInBounds_toArray, List.set_cons_zero, List.set_cons_succ])
        | ((with_reducible refine at_store ?_); refine store_arr rfl _ _ _ rfl (s + 1) 0 rfl 16 ρ rfl th size44 ?_; clear th rg; generalize World.setCells wr (s + 1) 0 (arr 16 ρ).toList = wz at *))
      refine bodyPost_ret (results_cell_row rfl _ _ (s + 1) 110 _ (0, 0) _ rfl HZ.out Tryz.underlying110 rfl (by rw [arr_size]; exact size44)) rfl ?_
      exact ⟨by rw [HR.out], by rw [hs]; exact hbb⟩
set_option maxHeartbeats 1600000 in
theorem baks_rows (f : Nat → Int) (w : World) (hf : In 100000000 16 f) :
    Calls Tryz.prog 103 #[.agg (arr 16 f), .func (Fn.func 88) #[] #[]] w fun e w' => e = .returned (.agg (arr 16 (rowsF bakR f))) ∧ Below w.heap.size w w' := by
  have HC : Hid (∀ w' (r : Nat → Int), In 100000000 4 r → Calls Tryz.prog 88 #[.agg (arr 4 r)] w' (fun e w'' => e = .returned (.agg (arr 4 (fun j => bakR j (r 0) (r 1) (r 2) (r 3)))) ∧ Below w'.heap.size w' w'')) := fun w' r hr => baks_any r w' hr
  go_enter Tryz.func103, Tryz.ntmps103
  go_wp2_with ((with_reducible refine at_load ?_); refine load_arr rfl _ _ rfl _ 0 rfl 16 f (range_all (((Blk.new w _ _).alloc _).alloc _)) Tryz.underlying108 rfl size42 ?_; simp only [Act.put, List.setIfInBounds_toArray, List.set_cons_zero, List.set_cons_succ])
  generalize hW : World.alloc (World.alloc (World.alloc w _) _) _ = W
  have B0 : Blk W w.heap.size (arr 16 f) 110 := by rw [← hW]; exact ((Blk.new w _ _).alloc _).alloc _
  have B1 : Blk W (w.heap.size + 1) (arr 16 (fun _ => 0)) 110 := by rw [← hW]; exact (Blk.new' _ _ (by simp)).alloc _
  have B2 : Blk W (w.heap.size + 1 + 1) (arr 16 (fun _ => 0)) 110 := by rw [← hW]; exact Blk.new' _ _ (by simp)
  have hb0 : Below w.heap.size w W := by rw [← hW]; exact (((Below.refl _ _).alloc (Nat.le_refl _) _).alloc (by simp) _).alloc (by simp; omega) _
  clear hW
  generalize hs : w.heap.size = s at *
  go_loopw [10] (fun i wr => ∃ k : Nat, k ≤ 4 ∧ i = .int .i64 (k : Int) ∧ Blk wr s (arr 16 f) 110 ∧ Blk wr (s + 1) (arr 16 (fun _ => 0)) 110 ∧ Blk wr (s + 1 + 1) (arr 16 (rowsTo bakR f k)) 110 ∧ Below s w wr) (fun i _ => 4 - (intOf i).toNat)
  case atStart => exact ⟨0, by omega, rfl, B0, B1, by rw [rowsTo_none]; exact B2, hb0⟩
  case round =>
    obtain ⟨k, hk, rfl, b0, b1, b2, hb⟩ := hrel
    clear B0 B1 B2 hb0
    by_cases hlt : k < 4
    · have l0 : (0 : Int) ≤ (k : Int) := by omega
      have l1 : (k : Int) < 4 := by omega
      have hidx : ∀ W, (Instr.index 108 (.agg (arr 16 f)) (.int .i64 (k : Int))).run Tryz.prog W = .ok (.agg (arr 4 (fun i => f (k * 4 + i)))) W := fun W => index_row Tryz.underlying108 size41 (agg41 W) f k hlt rfl
      have hst := run_storeCells_new (P := Tryz.prog) wr 107 #[.int .i64 0, .int .i64 0, .int .i64 0, .int .i64 0] (arr 4 (fun i => f (k * 4 + i))) (by rw [arr_size]; exact size41) (by rw [arr_size]; rfl) (arr_one _ _)
      go_wp2_with fail
      generalize hV : World.alloc wr _ = V
      have hbV : Below s w V := by rw [← hV]; exact hb.alloc (by rw [← hs]; exact hb.size) _
      have B0 : Blk V s (arr 16 f) 110 := by rw [← hV]; exact b0.alloc _
      have B1 : Blk V (s + 1) (arr 16 (fun _ => 0)) 110 := by rw [← hV]; exact b1.alloc _
      have B2 : Blk V (s + 1 + 1) (arr 16 (rowsTo bakR f k)) 110 := by rw [← hV]; exact b2.alloc _
      have B3 : Blk V wr.heap.size (arr 4 (fun i => f (k * 4 + i))) 107 := by rw [← hV]; exact Blk.new wr _ _
      clear hV hidx hst b0 b1 b2 hb
      generalize wr.heap.size = r at *
      obtain ⟨ρ, hρ⟩ : ∃ ρ : Nat → Int, ρ = fun i => f (k * 4 + i) := ⟨_, rfl⟩
      obtain ⟨τ, hτ⟩ : ∃ τ : Nat → Int, τ = fun j => bakR j (ρ 0) (ρ 1) (ρ 2) (ρ 3) := ⟨_, rfl⟩
      have HK : Hid (∀ w', Calls Tryz.prog 88 #[.agg (arr 4 ρ)] w' (fun e w'' => e = .returned (.agg (arr 4 τ)) ∧ Below w'.heap.size w' w'')) := fun w' => by
        rw [hτ]
        exact HC.out w' ρ (by rw [hρ]; exact fun i hi => hf _ (by omega))
      have HT : Hid (∀ W', Blk W' (s + 1 + 1) (arr 16 (rowsTo bakR f k)) 110 → Blk (W'.setCells (s + 1 + 1) (k * 4) (arr 4 τ).toList) (s + 1 + 1) (arr 16 (rowsTo bakR f (k + 1))) 110) := fun W' h => by
        refine arr_store h (k * 4) 4 (by omega) (fun i hi => ?_) (fun i hi ho => ?_)
        · unfold rowsTo
          rw [if_pos (by omega), Nat.mul_comm, rowsF_at _ _ _ _ hi, hτ, hρ, Nat.mul_comm k 4]
          rfl
        · unfold rowsTo
          by_cases c : i < 4 * k
          · rw [if_pos (by omega), if_pos c]
          · rw [if_neg (by omega), if_neg c]
      rw [← hρ] at B3
      clear HC
      rcases k with _ | p
      · clear hρ hτ
        go_quiet (fail)
        have b3 : Blk (V.drewN nq) r (arr 4 ρ) 107 := B3
        have hbq := below_drewN hbV nq
        have b0 : Blk (V.drewN nq) s (arr 16 f) 110 := B0
        have b1 : Blk (V.drewN nq) (s + 1) (arr 16 (fun _ => 0)) 110 := B1
        have b2 : Blk (V.drewN nq) (s + 1 + 1) (arr 16 (rowsTo bakR f 0)) 110 := B2
        clear B0 B1 B2 B3 hbV
        generalize V.drewN nq = U at *
        go_wp2_with (first
          | ((with_reducible refine at_load ?_); refine load_arr rfl _ _ rfl r 0 rfl 4 ρ (range_all b3) Tryz.underlying107 rfl size41 ?_; simp only [Act.put, List.setIfInBounds_toArray, List.set_cons_zero, List.set_cons_succ])
          | (go_at_call 88; refine (HK.out _).mono ?_; rintro e w2 ⟨rfl, hc2⟩)
          | ((with_reducible refine at_store ?_); refine store_arr rfl _ _ _ rfl (s + 1 + 1) (0 * 4) rfl 4 τ rfl (there_of_arr (b2.below hc2 b2.lt) (0 * 4) 4 (by omega)) size41 ?_))
        have hsz : s ≤ U.heap.size := by rw [← hs]; exact hbq.size
        have z2 := HT.out w2 (b2.below hc2 b2.lt)
        have z1 := Blk.others (show s + 1 ≠ s + 1 + 1 by omega) (arr 4 τ).toList (0 * 4) (b1.below hc2 b1.lt)
        have z0 := Blk.others (show s ≠ s + 1 + 1 by omega) (arr 4 τ).toList (0 * 4) (b0.below hc2 b0.lt)
        have zb := below_setCells (g := s + 1 + 1) (by omega) (arr 4 τ).toList (0 * 4) w2 (hbq.trans (hc2.mono hsz))
        refine ⟨⟨1, by omega, rfl, z0, z1, z2, zb⟩, ?_⟩
        simp [intOf]
      · have hpc : ((p + 1 : Nat) : Int) = (p : Int) + 1 := by omega
        have HS : Hid (∀ W' : World, Blk W' (s + 1 + 1) (arr 16 (rowsTo bakR f (p + 1))) 110 → (∀ i, i < 4 → ρ i = f (p * 4 + i)) → W'.rangeAt (s + 1 + 1) (p * 4) (arr 4 τ).toList) := fun W' h he => by
          have e := range_of_arr h (p * 4) 4 (by omega)
          rwa [arr_congr (g := τ) (fun i hi => by
            unfold rowsTo
            rw [if_pos (by omega), Nat.mul_comm p 4, rowsF_at _ _ _ _ hi, hτ]
            simp only [he 0 (by omega), he 1 (by omega), he 2 (by omega), he 3 (by omega)]
            rw [Nat.mul_comm p 4]
            rfl)] at e
        clear hρ hτ
        have d0 : V.cell? ⟨r, 0, none⟩ = some (.int .i64 (ρ 0)) := by rw [B3.cell, arr_get ρ (by omega)]
        have d1 : V.cell? ⟨r, 1, none⟩ = some (.int .i64 (ρ 1)) := by rw [B3.cell, arr_get ρ (by omega)]
        have d2 : V.cell? ⟨r, 2, none⟩ = some (.int .i64 (ρ 2)) := by rw [B3.cell, arr_get ρ (by omega)]
        have d3 : V.cell? ⟨r, 3, none⟩ = some (.int .i64 (ρ 3)) := by rw [B3.cell, arr_get ρ (by omega)]
        have g0 : V.cell? ⟨s, p * 4, none⟩ = some (.int .i64 (f (p * 4 + 0))) := by rw [B0.cell, arr_get f (by omega)]; rfl
        have g1 : V.cell? ⟨s, p * 4 + 1, none⟩ = some (.int .i64 (f (p * 4 + 1))) := by rw [B0.cell, arr_get f (by omega)]
        have g2 : V.cell? ⟨s, p * 4 + 2, none⟩ = some (.int .i64 (f (p * 4 + 2))) := by rw [B0.cell, arr_get f (by omega)]
        have g3 : V.cell? ⟨s, p * 4 + 3, none⟩ = some (.int .i64 (f (p * 4 + 3))) := by rw [B0.cell, arr_get f (by omega)]
        have heq : ∀ W : World, (Op.equalIn 10000 107 (.agg (arr 4 ρ)) (.agg (arr 4 (fun i => f (p * 4 + i))))).run Tryz.prog W = .ok ((List.range 4).all (fun i => ρ i == f (p * 4 + i))) W := fun W => eq_nums W 9998 107 3 4 .i64 Tryz.underlying107 size3 (agg3 W) Tryz.underlying3 _ _
        rw [show arr 4 ρ = #[.int .i64 (ρ 0), .int .i64 (ρ 1), .int .i64 (ρ 2), .int .i64 (ρ 3)] from rfl, show arr 4 (fun i => f (p * 4 + i)) = #[.int .i64 (f (p * 4 + 0)), .int .i64 (f (p * 4 + 1)), .int .i64 (f (p * 4 + 2)), .int .i64 (f (p * 4 + 3))] from rfl] at heq
        have q0 : (0 : Int) ≤ (p : Int) := by omega
        have q1 : (p : Int) < 3 := by omega
        have hpos : (0 : Int) < ((p + 1 : Nat) : Int) := by omega
        rw [hpc] at l0 l1 hpos
        cases hbb : (List.range 4).all (fun i => ρ i == f (p * 4 + i)) with
        | true =>
          have HE : Hid (∀ i, i < 4 → ρ i = f (p * 4 + i)) := all_eq_iff.1 hbb
          rw [hbb] at heq
          clear hbb
          generalize f (p * 4 + 0) = y0 at *
          generalize f (p * 4 + 1) = y1 at *
          generalize f (p * 4 + 2) = y2 at *
          generalize f (p * 4 + 3) = y3 at *
          generalize ρ 0 = x0 at *
          generalize ρ 1 = x1 at *
          generalize ρ 2 = x2 at *
          generalize ρ 3 = x3 at *
          rw [hpc]
          go_quiet (fail)
          have b0 : Blk (V.drewN nq) s (arr 16 f) 110 := B0
          have b1 : Blk (V.drewN nq) (s + 1) (arr 16 (fun _ => 0)) 110 := B1
          have b2 : Blk (V.drewN nq) (s + 1 + 1) (arr 16 (rowsTo bakR f (p + 1))) 110 := B2
          have hbq := below_drewN hbV nq
          clear B0 B1 B2 B3 hbV d0 d1 d2 d3 g0 g1 g2 g3 heq
          generalize V.drewN nq = U at *
          have rg := HS.out U b2 HE.out
          have th := there_of_arr b2 ((p + 1) * 4) 4 (by omega)
          go_wp2_with (first
            | ((with_reducible refine at_load ?_); refine load_arr rfl _ _ rfl (s + 1 + 1) (p * 4) rfl 4 τ rg Tryz.underlying107 rfl size41 ?_; simp only [Act.put, List.setIfInBounds_toArray, List.set_cons_zero, List.set_cons_succ])
            | ((with_reducible refine at_store ?_); refine store_arr rfl _ _ _ rfl (s + 1 + 1) ((p + 1) * 4) rfl 4 τ rfl th size41 ?_))
          have z2 := HT.out U b2
          have z1 := Blk.others (show s + 1 ≠ s + 1 + 1 by omega) (arr 4 τ).toList ((p + 1) * 4) b1
          have z0 := Blk.others (show s ≠ s + 1 + 1 by omega) (arr 4 τ).toList ((p + 1) * 4) b0
          have zb := below_setCells (g := s + 1 + 1) (by omega) (arr 4 τ).toList ((p + 1) * 4) U hbq
          refine ⟨⟨p + 1 + 1, by omega, by go_num, z0, z1, z2, zb⟩, ?_⟩
          simp [intOf]; omega
        | false =>
          rw [hbb] at heq
          clear hbb HS
          generalize f (p * 4 + 0) = y0 at *
          generalize f (p * 4 + 1) = y1 at *
          generalize f (p * 4 + 2) = y2 at *
          generalize f (p * 4 + 3) = y3 at *
          generalize ρ 0 = x0 at *
          generalize ρ 1 = x1 at *
          generalize ρ 2 = x2 at *
          generalize ρ 3 = x3 at *
          rw [hpc]
          go_quiet (fail)
          have b3 : Blk (V.drewN nq) r (arr 4 ρ) 107 := B3
          have hbq := below_drewN hbV nq
          have b0 : Blk (V.drewN nq) s (arr 16 f) 110 := B0
          have b1 : Blk (V.drewN nq) (s + 1) (arr 16 (fun _ => 0)) 110 := B1
          have b2 : Blk (V.drewN nq) (s + 1 + 1) (arr 16 (rowsTo bakR f (p + 1))) 110 := B2
          clear B0 B1 B2 B3 hbV d0 d1 d2 d3 g0 g1 g2 g3 heq
          generalize V.drewN nq = U at *
          go_wp2_with (first
            | ((with_reducible refine at_load ?_); refine load_arr rfl _ _ rfl r 0 rfl 4 ρ (range_all b3) Tryz.underlying107 rfl size41 ?_; simp only [Act.put, List.setIfInBounds_toArray, List.set_cons_zero, List.set_cons_succ])
            | (go_at_call 88; refine (HK.out _).mono ?_; rintro e w2 ⟨rfl, hc2⟩)
            | ((with_reducible refine at_store ?_); refine store_arr rfl _ _ _ rfl (s + 1 + 1) ((p + 1) * 4) rfl 4 τ rfl (there_of_arr (b2.below hc2 b2.lt) ((p + 1) * 4) 4 (by omega)) size41 ?_))
          have hsz : s ≤ U.heap.size := by rw [← hs]; exact hbq.size
          have z2 := HT.out w2 (b2.below hc2 b2.lt)
          have z1 := Blk.others (show s + 1 ≠ s + 1 + 1 by omega) (arr 4 τ).toList ((p + 1) * 4) (b1.below hc2 b1.lt)
          have z0 := Blk.others (show s ≠ s + 1 + 1 by omega) (arr 4 τ).toList ((p + 1) * 4) (b0.below hc2 b0.lt)
          have zb := below_setCells (g := s + 1 + 1) (by omega) (arr 4 τ).toList ((p + 1) * 4) w2 (hbq.trans (hc2.mono hsz))
          refine ⟨⟨p + 1 + 1, by omega, by go_num, z0, z1, z2, zb⟩, ?_⟩
          simp [intOf]; omega
    · obtain rfl : k = 4 := by omega
      rw [rowsTo_full] at b2
      obtain ⟨ρ, hρ⟩ : ∃ ρ, ρ = rowsF bakR f := ⟨_, rfl⟩
      have HR : Hid (rowsF bakR f = ρ) := hρ.symm
      rw [← hρ] at b2
      clear hρ HC
      have HZ : Hid (Blk (wr.setCells (s + 1) 0 (arr 16 ρ).toList) (s + 1) (arr 16 ρ) 110) := arr_store (k := ρ) b1 0 16 (by omega) (fun i hi => by rw [Nat.zero_add]) (fun i hi h => by omega)
      have hbb := below_setCells (g := s + 1) (by omega) (arr 16 ρ).toList 0 wr hb
      have rg := range_all b2
      have th := there_of_arr b1 0 16 (by omega)
      clear b0 b1 b2 hb hlt hk
      go_wp2_with (first
        | ((with_reducible refine at_load ?_); refine load_arr rfl _ _ rfl (s + 1 + 1) 0 rfl 16 ρ rg Tryz.underlying110 rfl size44 ?_; simp only [Act.put, List.setIfInBounds_toArray, List.set_cons_zero, List.set_cons_succ])
        | ((with_reducible refine at_store ?_); refine store_arr rfl _ _ _ rfl (s + 1) 0 rfl 16 ρ rfl th size44 ?_; clear th rg; generalize World.setCells wr (s + 1) 0 (arr 16 ρ).toList = wz at *))
      refine bodyPost_ret (results_cell_row rfl _ _ (s + 1) 110 _ (0, 0) _ rfl HZ.out Tryz.underlying110 rfl (by rw [arr_size]; exact size44)) rfl ?_
      exact ⟨by rw [HR.out], by rw [hs]; exact hbb⟩
end Go.Proofs.YtlejfkjanllgbaaGreatDoor

namespace Go.Proofs.YtlejfkjanllgbaaGreatDoor
open Go.RowKit
set_option linter.unusedVariables false

theorem agg42 (w : World) : (isAgg 108).run Tryz.prog w = .ok true w := by
  unfold isAgg
  rw [Sem.run_bind, run_underlying Tryz.underlying108 w]
  rfl
/-- == on a square and noughts, as the walk asks it. -/
theorem eq_square (f : Nat → Int) : ∀ W : World, (Op.equalIn 9999 108 (.agg ((arr 16 f).extract 0 16)) (.agg #[.int .i64 0, .int .i64 0, .int .i64 0, .int .i64 0, .int .i64 0, .int .i64 0, .int .i64 0, .int .i64 0, .int .i64 0, .int .i64 0, .int .i64 0, .int .i64 0, .int .i64 0, .int .i64 0, .int .i64 0, .int .i64 0])).run Tryz.prog W = .ok ((List.range 4).all (fun i => (List.range 4).all (fun j => f (i * 4 + j) == 0))) W := fun W => by
  have h := eq_rows W 9996 108 107 3 4 4 16 .i64 Tryz.underlying108 size41 (agg41 W) Tryz.underlying107 size3 (agg3 W) Tryz.underlying3 rfl f (fun _ => 0)
  have e : (arr 16 f).extract 0 16 = arr 16 f := by
    have := arr_extract (n := 16) (o := 0) (m := 16) f (by omega)
    simpa only [Nat.zero_add] using this
  rw [e]
  exact h
theorem sq_zero {f : Nat → Int} (h : (List.range 4).all (fun i => (List.range 4).all (fun j => f (i * 4 + j) == 0)) = true) : ∀ i, i < 16 → f i = 0 := fun i hi => by
  have := (all_rows_iff (g := fun _ => 0)).1 h (i / 4) (by omega) (i % 4) (by omega)
  rwa [show i / 4 * 4 + i % 4 = i by omega] at this

set_option maxHeartbeats 1600000 in
theorem sums_turned (f : Nat → Int) (w : World) (hf : In 10000000 16 f) :
    Calls Tryz.prog 75 #[.agg (arr 16 f), .func (Fn.func 76) #[] #[]] w fun e w' => e = .returned (.agg (arr 16 (turnF sumR f))) ∧ Below w.heap.size w w' := by
  have he := eq_square f
  cases hb : (List.range 4).all (fun i => (List.range 4).all (fun j => f (i * 4 + j) == 0)) with
  | true =>
    have HT : Hid (arr 16 (turnF sumR f) = arr 16 f) := arr_congr (turn_zero sum_zero (sq_zero hb))
    rw [hb] at he
    clear hb
    go_enter Tryz.func75, Tryz.ntmps75
    go_wp2_with (first
      | ((with_reducible refine at_load ?_); first | (refine load_arr rfl _ _ rfl w.heap.size 0 rfl 16 f (range_all b0) Tryz.underlying110 rfl size44 ?_; simp only [Act.put, List.setIfInBounds_toArray, List.set_cons_zero, List.set_cons_succ]) | (generalize hV : World.alloc (World.alloc w _) _ = V; have b0 : Blk V w.heap.size (arr 16 f) 110 := (by rw [← hV]; exact (Blk.new w _ _).alloc _); have b1 : Blk V (w.heap.size + 1) (arr 16 (fun _ => 0)) 110 := (by rw [← hV]; exact Blk.new' _ _ (by simp)); have hb : Below w.heap.size w V := (by rw [← hV]; exact ((Below.refl _ _).alloc (Nat.le_refl _) _).alloc (by simp) _); clear hV; refine load_arr rfl _ _ rfl w.heap.size 0 rfl 16 f (range_all b0) Tryz.underlying110 rfl size44 ?_; simp only [Act.put, List.setIfInBounds_toArray, List.set_cons_zero, List.set_cons_succ]))
      | ((with_reducible refine at_store ?_); refine store_arr rfl _ _ _ rfl (w.heap.size + 1) 0 rfl 16 f rfl (there_of_arr b1 0 16 (by omega)) size44 ?_; have HZ : Hid (Blk (V.setCells (w.heap.size + 1) 0 (arr 16 f).toList) (w.heap.size + 1) (arr 16 f) 110) := (arr_store (k := f) b1 0 16 (by omega) (fun i hi => by rw [Nat.zero_add]) (fun i hi h => by omega)); have hbb := below_setCells (g := w.heap.size + 1) (by omega) (arr 16 f).toList 0 V hb; generalize World.setCells V (w.heap.size + 1) 0 (arr 16 f).toList = Z at *))
    refine bodyPost_ret (results_cell_row rfl _ _ (w.heap.size + 1) 110 _ (0, 0) _ rfl HZ.out Tryz.underlying110 rfl (by rw [arr_size]; exact size44)) rfl ?_
    exact ⟨by rw [HT.out], hbb⟩
  | false =>
    rw [hb] at he
    clear hb
    have H1 : Hid (∀ w', Calls Tryz.prog 103 #[.agg (arr 16 f), .func (Fn.func 76) #[] #[]] w' (fun e w'' => e = .returned (.agg (arr 16 (rowsF sumR f))) ∧ Below w'.heap.size w' w'')) := fun w' => sums_rows f w' (fun i hi => by have := hf i hi; omega)
    have H2 : Hid (∀ w', Calls Tryz.prog 104 #[.agg (arr 16 (rowsF sumR f))] w' (fun e w'' => e = .returned (.agg (arr 16 (flipF (rowsF sumR f)))) ∧ Below w'.heap.size w' w'')) := fun w' => flipped_any _ w'
    have H3 : Hid (∀ w', Calls Tryz.prog 103 #[.agg (arr 16 (flipF (rowsF sumR f))), .func (Fn.func 76) #[] #[]] w' (fun e w'' => e = .returned (.agg (arr 16 (rowsF sumR (flipF (rowsF sumR f))))) ∧ Below w'.heap.size w' w'')) := fun w' => sums_rows _ w' (fun i hi => by have := hf.sums.flip i hi; omega)
    have H4 : Hid (∀ w', Calls Tryz.prog 104 #[.agg (arr 16 (rowsF sumR (flipF (rowsF sumR f))))] w' (fun e w'' => e = .returned (.agg (arr 16 (turnF sumR f))) ∧ Below w'.heap.size w' w'')) := fun w' => flipped_any _ w'
    obtain ⟨f4, hf4⟩ : ∃ g, turnF sumR f = g := ⟨_, rfl⟩
    have HF : Hid (turnF sumR f = f4) := hf4
    rw [hf4] at H4
    clear hf4
    generalize rowsF sumR (flipF (rowsF sumR f)) = f3 at *
    generalize flipF (rowsF sumR f) = f2 at *
    generalize rowsF sumR f = f1 at *
    go_enter Tryz.func75, Tryz.ntmps75
    go_wp2_with (first
      | ((with_reducible refine at_load ?_); first | (refine load_arr rfl _ _ rfl w.heap.size 0 rfl 16 f (range_all b0) Tryz.underlying110 rfl size44 ?_; simp only [Act.put, List.setIfInBounds_toArray, List.set_cons_zero, List.set_cons_succ]) | (generalize hV : World.alloc (World.alloc w _) _ = V; have b0 : Blk V w.heap.size (arr 16 f) 110 := (by rw [← hV]; exact (Blk.new w _ _).alloc _); have b1 : Blk V (w.heap.size + 1) (arr 16 (fun _ => 0)) 110 := (by rw [← hV]; exact Blk.new' _ _ (by simp)); have hb : Below w.heap.size w V := (by rw [← hV]; exact ((Below.refl _ _).alloc (Nat.le_refl _) _).alloc (by simp) _); clear hV; refine load_arr rfl _ _ rfl w.heap.size 0 rfl 16 f (range_all b0) Tryz.underlying110 rfl size44 ?_; simp only [Act.put, List.setIfInBounds_toArray, List.set_cons_zero, List.set_cons_succ]))
      | (go_at_call 103; first | (have hx := hc2; refine (H3.out _).mono ?_; rintro e w3 ⟨rfl, hc3⟩) | (refine (H1.out _).mono ?_; rintro e w1 ⟨rfl, hc1⟩))
      | (go_at_call 104; first | (have hx := hc3; refine (H4.out _).mono ?_; rintro e w4 ⟨rfl, hc4⟩; have hb4 := (((hc1.trans (hc2.mono hc1.size)).trans (hc3.mono (Nat.le_trans hc1.size hc2.size))).trans (hc4.mono (Nat.le_trans (Nat.le_trans hc1.size hc2.size) hc3.size))); have z1 := b1.below hb4 b1.lt; have zb := hb.trans (hb4.mono hb.size); clear hc1 hc2 hc3 hc4 hb4) | (refine (H2.out _).mono ?_; rintro e w2 ⟨rfl, hc2⟩))
      | ((with_reducible refine at_store ?_); refine store_arr rfl _ _ _ rfl (w.heap.size + 1) 0 rfl 16 f4 rfl (there_of_arr z1 0 16 (by omega)) size44 ?_; have HZ : Hid (Blk (w4.setCells (w.heap.size + 1) 0 (arr 16 f4).toList) (w.heap.size + 1) (arr 16 f4) 110) := (arr_store (k := f4) z1 0 16 (by omega) (fun i hi => by rw [Nat.zero_add]) (fun i hi h => by omega)); have hbb := below_setCells (g := w.heap.size + 1) (by omega) (arr 16 f4).toList 0 w4 zb; generalize World.setCells w4 (w.heap.size + 1) 0 (arr 16 f4).toList = Z at *))
    refine bodyPost_ret (results_cell_row rfl _ _ (w.heap.size + 1) 110 _ (0, 0) _ rfl HZ.out Tryz.underlying110 rfl (by rw [arr_size]; exact size44)) rfl ?_
    exact ⟨by rw [HF.out], hbb⟩
set_option maxHeartbeats 1600000 in
theorem baks_turned (f : Nat → Int) (w : World) (hf : In 10000000 16 f) :
    Calls Tryz.prog 75 #[.agg (arr 16 f), .func (Fn.func 88) #[] #[]] w fun e w' => e = .returned (.agg (arr 16 (turnF bakR f))) ∧ Below w.heap.size w w' := by
  have he := eq_square f
  cases hb : (List.range 4).all (fun i => (List.range 4).all (fun j => f (i * 4 + j) == 0)) with
  | true =>
    have HT : Hid (arr 16 (turnF bakR f) = arr 16 f) := arr_congr (turn_zero bak_zero (sq_zero hb))
    rw [hb] at he
    clear hb
    go_enter Tryz.func75, Tryz.ntmps75
    go_wp2_with (first
      | ((with_reducible refine at_load ?_); first | (refine load_arr rfl _ _ rfl w.heap.size 0 rfl 16 f (range_all b0) Tryz.underlying110 rfl size44 ?_; simp only [Act.put, List.setIfInBounds_toArray, List.set_cons_zero, List.set_cons_succ]) | (generalize hV : World.alloc (World.alloc w _) _ = V; have b0 : Blk V w.heap.size (arr 16 f) 110 := (by rw [← hV]; exact (Blk.new w _ _).alloc _); have b1 : Blk V (w.heap.size + 1) (arr 16 (fun _ => 0)) 110 := (by rw [← hV]; exact Blk.new' _ _ (by simp)); have hb : Below w.heap.size w V := (by rw [← hV]; exact ((Below.refl _ _).alloc (Nat.le_refl _) _).alloc (by simp) _); clear hV; refine load_arr rfl _ _ rfl w.heap.size 0 rfl 16 f (range_all b0) Tryz.underlying110 rfl size44 ?_; simp only [Act.put, List.setIfInBounds_toArray, List.set_cons_zero, List.set_cons_succ]))
      | ((with_reducible refine at_store ?_); refine store_arr rfl _ _ _ rfl (w.heap.size + 1) 0 rfl 16 f rfl (there_of_arr b1 0 16 (by omega)) size44 ?_; have HZ : Hid (Blk (V.setCells (w.heap.size + 1) 0 (arr 16 f).toList) (w.heap.size + 1) (arr 16 f) 110) := (arr_store (k := f) b1 0 16 (by omega) (fun i hi => by rw [Nat.zero_add]) (fun i hi h => by omega)); have hbb := below_setCells (g := w.heap.size + 1) (by omega) (arr 16 f).toList 0 V hb; generalize World.setCells V (w.heap.size + 1) 0 (arr 16 f).toList = Z at *))
    refine bodyPost_ret (results_cell_row rfl _ _ (w.heap.size + 1) 110 _ (0, 0) _ rfl HZ.out Tryz.underlying110 rfl (by rw [arr_size]; exact size44)) rfl ?_
    exact ⟨by rw [HT.out], hbb⟩
  | false =>
    rw [hb] at he
    clear hb
    have H1 : Hid (∀ w', Calls Tryz.prog 103 #[.agg (arr 16 f), .func (Fn.func 88) #[] #[]] w' (fun e w'' => e = .returned (.agg (arr 16 (rowsF bakR f))) ∧ Below w'.heap.size w' w'')) := fun w' => baks_rows f w' (fun i hi => by have := hf i hi; omega)
    have H2 : Hid (∀ w', Calls Tryz.prog 104 #[.agg (arr 16 (rowsF bakR f))] w' (fun e w'' => e = .returned (.agg (arr 16 (flipF (rowsF bakR f)))) ∧ Below w'.heap.size w' w'')) := fun w' => flipped_any _ w'
    have H3 : Hid (∀ w', Calls Tryz.prog 103 #[.agg (arr 16 (flipF (rowsF bakR f))), .func (Fn.func 88) #[] #[]] w' (fun e w'' => e = .returned (.agg (arr 16 (rowsF bakR (flipF (rowsF bakR f))))) ∧ Below w'.heap.size w' w'')) := fun w' => baks_rows _ w' (fun i hi => by have := (hf.baks (by omega)).flip i hi; omega)
    have H4 : Hid (∀ w', Calls Tryz.prog 104 #[.agg (arr 16 (rowsF bakR (flipF (rowsF bakR f))))] w' (fun e w'' => e = .returned (.agg (arr 16 (turnF bakR f))) ∧ Below w'.heap.size w' w'')) := fun w' => flipped_any _ w'
    obtain ⟨f4, hf4⟩ : ∃ g, turnF bakR f = g := ⟨_, rfl⟩
    have HF : Hid (turnF bakR f = f4) := hf4
    rw [hf4] at H4
    clear hf4
    generalize rowsF bakR (flipF (rowsF bakR f)) = f3 at *
    generalize flipF (rowsF bakR f) = f2 at *
    generalize rowsF bakR f = f1 at *
    go_enter Tryz.func75, Tryz.ntmps75
    go_wp2_with (first
      | ((with_reducible refine at_load ?_); first | (refine load_arr rfl _ _ rfl w.heap.size 0 rfl 16 f (range_all b0) Tryz.underlying110 rfl size44 ?_; simp only [Act.put, List.setIfInBounds_toArray, List.set_cons_zero, List.set_cons_succ]) | (generalize hV : World.alloc (World.alloc w _) _ = V; have b0 : Blk V w.heap.size (arr 16 f) 110 := (by rw [← hV]; exact (Blk.new w _ _).alloc _); have b1 : Blk V (w.heap.size + 1) (arr 16 (fun _ => 0)) 110 := (by rw [← hV]; exact Blk.new' _ _ (by simp)); have hb : Below w.heap.size w V := (by rw [← hV]; exact ((Below.refl _ _).alloc (Nat.le_refl _) _).alloc (by simp) _); clear hV; refine load_arr rfl _ _ rfl w.heap.size 0 rfl 16 f (range_all b0) Tryz.underlying110 rfl size44 ?_; simp only [Act.put, List.setIfInBounds_toArray, List.set_cons_zero, List.set_cons_succ]))
      | (go_at_call 103; first | (have hx := hc2; refine (H3.out _).mono ?_; rintro e w3 ⟨rfl, hc3⟩) | (refine (H1.out _).mono ?_; rintro e w1 ⟨rfl, hc1⟩))
      | (go_at_call 104; first | (have hx := hc3; refine (H4.out _).mono ?_; rintro e w4 ⟨rfl, hc4⟩; have hb4 := (((hc1.trans (hc2.mono hc1.size)).trans (hc3.mono (Nat.le_trans hc1.size hc2.size))).trans (hc4.mono (Nat.le_trans (Nat.le_trans hc1.size hc2.size) hc3.size))); have z1 := b1.below hb4 b1.lt; have zb := hb.trans (hb4.mono hb.size); clear hc1 hc2 hc3 hc4 hb4) | (refine (H2.out _).mono ?_; rintro e w2 ⟨rfl, hc2⟩))
      | ((with_reducible refine at_store ?_); refine store_arr rfl _ _ _ rfl (w.heap.size + 1) 0 rfl 16 f4 rfl (there_of_arr z1 0 16 (by omega)) size44 ?_; have HZ : Hid (Blk (w4.setCells (w.heap.size + 1) 0 (arr 16 f4).toList) (w.heap.size + 1) (arr 16 f4) 110) := (arr_store (k := f4) z1 0 16 (by omega) (fun i hi => by rw [Nat.zero_add]) (fun i hi h => by omega)); have hbb := below_setCells (g := w.heap.size + 1) (by omega) (arr 16 f4).toList 0 w4 zb; generalize World.setCells w4 (w.heap.size + 1) 0 (arr 16 f4).toList = Z at *))
    refine bodyPost_ret (results_cell_row rfl _ _ (w.heap.size + 1) 110 _ (0, 0) _ rfl HZ.out Tryz.underlying110 rfl (by rw [arr_size]; exact size44)) rfl ?_
    exact ⟨by rw [HF.out], hbb⟩
end Go.Proofs.YtlejfkjanllgbaaGreatDoor

namespace Go.Proofs.YtlejfkjanllgbaaGreatDoor
open Go.RowKit
set_option linter.unusedVariables false

theorem slice_four (W : World) (g : Nat) :
    (Instr.sliceAt 107 (.pointer (some ⟨g, 0, none⟩)) none none none).run Tryz.prog W = .ok (.slice (some ⟨g, 0, none⟩) 4 4) W := by
  have ha : Tryz.prog.arrayLen 107 = 4 := by kernel_rfl
  have he : Tryz.prog.elem 107 = 3 := by kernel_rfl
  rw [run_sliceAt_array_all W 107 ⟨g, 0, none⟩ (by rw [ha, he]; exact Tryz.underlying107), he, ha, Tryz.sizeOf3]
  simp [Result.andThen, slicedAt, Addr.add]
theorem arr_list (n : Nat) (f : Nat → Int) : (arr n f).toList = (listF n f).map (Value.int .i64) := by
  simp [arr, listF]

set_option maxHeartbeats 1600000 in
theorem fourList (f : Nat → Int) (w : World) :
    Calls Tryz.prog 77 #[.agg (arr 16 f)] w fun e w' => (∃ v, e = .returned v ∧ w'.ownsRow w.heap.size 3 1 v 16 ((listF 16 f).map (Value.int .i64))) ∧ Below w.heap.size w w' := by
  obtain ⟨i0, hi0, hz0, hz1, hz2⟩ := info_parts infoI
  go_enter Tryz.func77, Tryz.ntmps77
  go_wp2_with (first
    | (at_make; refine wpList_make_own _ rfl _ _ 24 rfl w.heap.size 3 i0 (.int .i64 0) 1 Tryz.underlying24 hi0 hz0 hz1 .i64 .i64 _ 16 rfl rfl rfl (by rw [hz2]; omega) (by unfold maxLen; omega) (by simp) ?_; intro w1 hown0 hgrow0; have b0 : Blk w1 w.heap.size (arr 16 f) 110 := (Blk.new w _ _).grew hgrow0 (by simp); have hb0 : Below w.heap.size w w1 := ((Below.refl _ _).alloc (Nat.le_refl _) _).grown hgrow0 (by simp) (fun j hj => by cases hj); clear hgrow0)
    | ((with_reducible refine at_load ?_); refine load_arr rfl _ _ rfl w.heap.size 0 rfl 16 f (range_all b0) Tryz.underlying108 rfl size42 ?_; simp only [Act.put, List.setIfInBounds_toArray, List.set_cons_zero, List.set_cons_succ]))
  have hsl := slice_four
  clear b0
  go_loopw [3, 9] (fun v i wr => ∃ k : Nat, k ≤ 4 ∧ i = .int .i64 (k : Int) ∧ v = .slice (some ⟨w.heap.size + 1, 0, none⟩) (4 * k) 16 ∧ wr.ownsRow w.heap.size 3 1 (.slice (some ⟨w.heap.size + 1, 0, none⟩) (4 * k) 16) (4 * k) ((listF (4 * k) f).map (Value.int .i64)) ∧ Below w.heap.size w wr) (fun _ i _ => 4 - (intOf i).toNat)
  case atStart => exact ⟨0, by omega, rfl, by simp, by simpa [listF] using hown0, hb0⟩
  case round =>
    obtain ⟨k, hk, rfl, rfl, hown, hb⟩ := hrel
    clear hown0 hb0
    by_cases hlt : k < 4
    · have l0 : (0 : Int) ≤ (k : Int) := by omega
      have l1 : (k : Int) < 4 := by omega
      obtain ⟨ρ, hρ⟩ : ∃ ρ : Nat → Int, ρ = fun i => f (k * 4 + i) := ⟨_, rfl⟩
      have hidx : ∀ W, (Instr.index 108 (.agg (arr 16 f)) (.int .i64 (k : Int))).run Tryz.prog W = .ok (.agg (arr 4 ρ)) W := fun W => by rw [hρ]; exact index_row Tryz.underlying108 size41 (agg41 W) f k hlt rfl
      have HL : Hid ((listF (4 * k) f).map (Value.int .i64) ++ (arr 4 ρ).toList = (listF (4 * (k + 1)) f).map (Value.int .i64)) := by
        show _ = _
        rw [arr_list, ← List.map_append, hρ, Nat.mul_comm k 4, listF_append]
        rfl
      clear hρ
      have hst := run_storeCells_new (P := Tryz.prog) wr 107 #[.int .i64 0, .int .i64 0, .int .i64 0, .int .i64 0] (arr 4 ρ) (by rw [arr_size]; exact size41) (by rw [arr_size]; rfl) (arr_one _ _)
      have ho := hown.alloc (.cells (arr 4 ρ) 107)
      have hb1 := hb.alloc hb.size (.cells (arr 4 ρ) 107)
      have B3 : Blk (wr.alloc (.cells (arr 4 ρ) 107)) wr.heap.size (arr 4 ρ) 107 := Blk.new wr _ _
      have hnew : ∀ j u, (arr 4 ρ).toList[j]? = some u → (wr.alloc (.cells (arr 4 ρ) 107)).cell? ((⟨wr.heap.size, 0, none⟩ : Addr).add j) = some u := fun j u hu => by
        rw [Addr.add_mid, Nat.zero_add, B3.cell]
        simpa using hu
      have HN : Hid (∀ j u, (arr 4 ρ).toList[j]? = some u → (wr.alloc (.cells (arr 4 ρ) 107)).cell? ((⟨wr.heap.size, 0, none⟩ : Addr).add j) = some u) := hnew
      clear hnew B3 hown hb
      go_wp2_with (at_builtin; refine wpList_append_fits _ rfl _ _ 24 rfl w.heap.size 3 i0 1 Tryz.underlying24 hi0 hz1 (w.heap.size + 1) (4 * k) 16 _ rfl ho ⟨wr.heap.size, 0, none⟩ 4 4 (arr 4 ρ).toList rfl (by simp [arr]) HN.out (fun u hu => Array.all_eq_true_iff_forall_mem.1 (arr_one 4 ρ) u (by simpa using hu)) (by omega) ?_; intro w2 hown2 hg2)
      rw [HL.out] at hown2
      refine ⟨⟨k + 1, by omega, by go_num, rfl, hown2, hb1.grown hg2 hb1.size (fun j hj => by cases hj; omega)⟩, ?_⟩
      simp [intOf]; omega
    · obtain rfl : k = 4 := by omega
      go_wp2
      go_ret
      exact ⟨⟨_, rfl, hown⟩, hb⟩
end Go.Proofs.YtlejfkjanllgbaaGreatDoor

namespace Go.Proofs.YtlejfkjanllgbaaGreatDoor
open Go.RowKit
set_option linter.unusedVariables false

/-- The first k numbers are laid. -/
def upTo (xs : List Int) (k i : Nat) : Int := if i < k then xs.getD i 0 else 0

set_option maxHeartbeats 1600000 in
theorem fourOf_no (a : Option Addr) (cap : Nat) (xs : List Int) (M : Int) (w : World) (h : Ints w a xs) (hl : xs.length ≤ maxLen) (m0 : 0 ≤ M) (m1 : M ≤ 100000000) (hno : (decide (xs.length = 16) && inB M xs) = false) :
    Calls Tryz.prog 74 #[.slice a xs.length cap, .int .i64 M] w fun e w' => (∃ F, e = .returned (.tuple #[.agg (arr 16 F), .bool false])) ∧ Below w.heap.size w w' := by
  have HA : Hid (∀ w', Below w.heap.size w w' → Calls Tryz.prog 38 #[.slice a xs.length cap, .int .i64 M] w' (fun e w'' => e = .returned (.bool (inB M xs)) ∧ Below w'.heap.size w' w'')) := fun w' hb => implAll a cap xs M w' (h.below hb (Nat.le_refl _)) hl m0 m1
  unfold maxLen at hl
  clear h
  by_cases hn : xs.length = 16
  · have hin : inB M xs = false := by simpa [hn] using hno
    rw [hin] at HA
    clear hin hno
    have hnI : (xs.length : Int) = 16 := by omega
    go_enter Tryz.func74, Tryz.ntmps74
    rw [hn]
    rw [hn] at HA
    clear hn hnI hl
    go_wp2_with (first
      | (go_at_call 38; generalize hV : World.alloc (World.alloc w _) _ = V; have B0 : Blk V w.heap.size (arr 16 (fun _ => 0)) 110 := (by rw [← hV]; exact (Blk.new w _ _).alloc _); have B1 : Blk V (w.heap.size + 1) (arr 16 (fun _ => 0)) 110 := (by rw [← hV]; exact Blk.new' _ _ (by simp)); have hb : Below w.heap.size w V := (by rw [← hV]; exact ((Below.refl _ _).alloc (Nat.le_refl _) _).alloc (by simp) _); clear hV; refine (HA.out V hb).mono ?_; rintro e w1 ⟨rfl, hc⟩; have b0 := B0.below hc B0.lt; have b1 := B1.below hc B1.lt; have hb1 := hb.trans (hc.mono hb.size); clear B0 B1 hb hc)
      | ((with_reducible refine at_load ?_); refine load_arr rfl _ _ rfl (w.heap.size + 1) 0 rfl 16 (fun _ => 0) (range_all b1) Tryz.underlying110 rfl size44 ?_; simp only [Act.put, List.setIfInBounds_toArray, List.set_cons_zero, List.set_cons_succ])
      | ((with_reducible refine at_store ?_); refine store_arr rfl _ _ _ rfl w.heap.size 0 rfl 16 (fun _ => 0) rfl (there_of_arr b0 0 16 (by omega)) size44 ?_; have HZ : Hid (Blk (w1.setCells w.heap.size 0 (arr 16 (fun _ => 0)).toList) w.heap.size (arr 16 (fun _ => 0)) 110) := (arr_store (k := fun _ => 0) b0 0 16 (by omega) (fun i hi => rfl) (fun i hi h => by omega)); have hbb := below_setCells (g := w.heap.size) (by omega) (arr 16 (fun _ => 0)).toList 0 w1 hb1; generalize World.setCells w1 w.heap.size 0 (arr 16 (fun _ => 0)).toList = Z at *))
    refine bodyPost_ret (results_cell_and rfl _ _ w.heap.size 110 _ (0, 0) _ rfl HZ.out Tryz.underlying110 rfl (by rw [arr_size]; exact size44)) rfl ?_
    exact ⟨⟨_, rfl⟩, hbb⟩
  · have hq : ((xs.length : Int) == 16) = false := by rw [beq_eq_false_iff_ne]; omega
    have hq' : (xs.length == 16) = false := by rw [beq_eq_false_iff_ne]; exact hn
    have hn' : ¬ (xs.length : Int) = 16 := by omega
    clear HA hno
    go_enter Tryz.func74, Tryz.ntmps74
    go_wp2_with (first
      | ((with_reducible refine at_load ?_); generalize hV : World.alloc (World.alloc w _) _ = V; have b0 : Blk V w.heap.size (arr 16 (fun _ => 0)) 110 := (by rw [← hV]; exact (Blk.new w _ _).alloc _); have b1 : Blk V (w.heap.size + 1) (arr 16 (fun _ => 0)) 110 := (by rw [← hV]; exact Blk.new' _ _ (by simp)); have hb1 : Below w.heap.size w V := (by rw [← hV]; exact ((Below.refl _ _).alloc (Nat.le_refl _) _).alloc (by simp) _); clear hV; refine load_arr rfl _ _ rfl (w.heap.size + 1) 0 rfl 16 (fun _ => 0) (range_all b1) Tryz.underlying110 rfl size44 ?_; simp only [Act.put, List.setIfInBounds_toArray, List.set_cons_zero, List.set_cons_succ])
      | ((with_reducible refine at_store ?_); refine store_arr rfl _ _ _ rfl w.heap.size 0 rfl 16 (fun _ => 0) rfl (there_of_arr b0 0 16 (by omega)) size44 ?_; have HZ : Hid (Blk (V.setCells w.heap.size 0 (arr 16 (fun _ => 0)).toList) w.heap.size (arr 16 (fun _ => 0)) 110) := (arr_store (k := fun _ => 0) b0 0 16 (by omega) (fun i hi => rfl) (fun i hi h => by omega)); have hbb := below_setCells (g := w.heap.size) (by omega) (arr 16 (fun _ => 0)).toList 0 V hb1; generalize World.setCells V w.heap.size 0 (arr 16 (fun _ => 0)).toList = Z at *))
    refine bodyPost_ret (results_cell_and rfl _ _ w.heap.size 110 _ (0, 0) _ rfl HZ.out Tryz.underlying110 rfl (by rw [arr_size]; exact size44)) rfl ?_
    exact ⟨⟨_, rfl⟩, hbb⟩

set_option maxHeartbeats 1600000 in
theorem fourOf_yes (a : Option Addr) (cap : Nat) (xs : List Int) (M : Int) (w : World) (h : Ints w a xs) (hl : xs.length ≤ maxLen) (m0 : 0 ≤ M) (m1 : M ≤ 100000000) (hn : xs.length = 16) (hin : inB M xs = true) :
    Calls Tryz.prog 74 #[.slice a xs.length cap, .int .i64 M] w fun e w' => e = .returned (.tuple #[.agg (arr 16 (fun i => xs.getD i 0)), .bool true]) ∧ Below w.heap.size w w' := by
  have HA : Hid (∀ w', Below w.heap.size w w' → Calls Tryz.prog 38 #[.slice a xs.length cap, .int .i64 M] w' (fun e w'' => e = .returned (.bool (inB M xs)) ∧ Below w'.heap.size w' w'')) := fun w' hb => implAll a cap xs M w' (h.below hb (Nat.le_refl _)) hl m0 m1
  have HI : Hid (∀ w' (k : Nat), Below w.heap.size w w' → k < 16 → ∃ b off : Nat, a = some ⟨b, off, none⟩ ∧ w'.cell? ⟨b, off + k, none⟩ = some (.int .i64 (xs.getD k 0))) := fun w' k hb hk => by
    rcases h.below hb (Nat.le_refl _) with h0 | ⟨b, off, ha, _, hc⟩
    · rw [h0] at hn; simp at hn
    · exact ⟨b, off, ha, hc k (by omega)⟩
  rw [hin, hn] at HA
  rw [hn]
  clear h hl hin
  go_enter Tryz.func74, Tryz.ntmps74
  clear hn
  go_wp2_with (go_at_call 38; generalize hV : World.alloc (World.alloc w _) _ = V; have B0 : Blk V w.heap.size (arr 16 (fun _ => 0)) 110 := (by rw [← hV]; exact (Blk.new w _ _).alloc _); have B1 : Blk V (w.heap.size + 1) (arr 16 (fun _ => 0)) 110 := (by rw [← hV]; exact Blk.new' _ _ (by simp)); have hb : Below w.heap.size w V := (by rw [← hV]; exact ((Below.refl _ _).alloc (Nat.le_refl _) _).alloc (by simp) _); clear hV; refine (HA.out V hb).mono ?_; rintro e w1 ⟨rfl, hc⟩; have b0 := B0.below hc B0.lt; have b1 := B1.below hc B1.lt; have hb1 := hb.trans (hc.mono hb.size); clear B0 B1 hb hc)
  clear HA
  generalize hs : w.heap.size = s at *
  go_loopw [21] (fun i wr => ∃ k : Nat, k ≤ 16 ∧ i = .int .i64 (k : Int) ∧ Blk wr s (arr 16 (fun _ => 0)) 110 ∧ Blk wr (s + 1) (arr 16 (upTo xs k)) 110 ∧ Below s w wr) (fun i _ => 16 - (intOf i).toNat)
  case atStart => exact ⟨0, by omega, rfl, b0, by rw [show arr 16 (upTo xs 0) = arr 16 (fun _ => 0) from arr_congr fun i hi => if_neg (by omega)]; exact b1, hb1⟩
  case round =>
    obtain ⟨k, hk, rfl, c0, c1, hb⟩ := hrel
    clear b0 b1 hb1
    by_cases hlt : k < 16
    · have l0 : (0 : Int) ≤ (k : Int) := by omega
      have l1 : (k : Int) < 16 := by omega
      obtain ⟨b, off, ha, d0⟩ := HI.out wr k hb hlt
      obtain ⟨x, hx⟩ : ∃ x, xs.getD k 0 = x := ⟨_, rfl⟩
      have HX : Hid (xs.getD k 0 = x) := hx
      rw [hx] at d0
      subst ha
      clear hx
      have e0 : wr.cell? ⟨s + 1, k / 4 * 4 + k % 4, none⟩ = some (.int .i64 (upTo xs k (k / 4 * 4 + k % 4))) := by rw [c1.cell, arr_get _ (by omega)]
      have f0 : wr.frozen? ⟨s + 1, k / 4 * 4 + k % 4, none⟩ = false := c1.frozen _
      have z1 := c1.set (k / 4 * 4 + k % 4) (.int .i64 x) (by rw [arr_size]; omega)
      rw [arr_set (g := upTo xs (k + 1)) x (by unfold upTo; rw [if_pos (by omega), show k / 4 * 4 + k % 4 = k by omega, HX.out]) (fun i hi => by
        unfold upTo
        by_cases c : i < k
        · rw [if_pos (by omega), if_pos c]
        · rw [if_neg (by omega), if_neg c])] at z1
      have z0 := c0.other ⟨s + 1, k / 4 * 4 + k % 4, none⟩ (.int .i64 x) (by simp)
      have zb := hb.setCell (p := ⟨s + 1, k / 4 * 4 + k % 4, none⟩) (by simp) (.int .i64 x)
      clear c0 c1 hb
      go_wp2_with fail
      refine ⟨⟨k + 1, by omega, by go_num, z0, z1, zb⟩, ?_⟩
      simp [intOf]; omega
    · obtain rfl : k = 16 := by omega
      rw [show arr 16 (upTo xs 16) = arr 16 (fun i => xs.getD i 0) from arr_congr fun i hi => if_pos hi] at c1
      obtain ⟨ρ, hρ⟩ : ∃ ρ : Nat → Int, (fun i => xs.getD i 0) = ρ := ⟨_, rfl⟩
      have HR : Hid ((fun i => xs.getD i 0) = ρ) := hρ
      rw [hρ] at c1
      clear hρ hlt hk HI
      go_wp2_with (first
        | ((with_reducible refine at_load ?_); refine load_arr rfl _ _ rfl (s + 1) 0 rfl 16 ρ (range_all c1) Tryz.underlying110 rfl size44 ?_; simp only [Act.put, List.setIfInBounds_toArray, List.set_cons_zero, List.set_cons_succ])
        | ((with_reducible refine at_store ?_); refine store_arr rfl _ _ _ rfl s 0 rfl 16 ρ rfl (there_of_arr c0 0 16 (by omega)) size44 ?_; have HZ : Hid (Blk (wr.setCells s 0 (arr 16 ρ).toList) s (arr 16 ρ) 110) := (arr_store (k := ρ) c0 0 16 (by omega) (fun i hi => by rw [Nat.zero_add]) (fun i hi h => by omega)); have hbb := below_setCells (g := s) (by omega) (arr 16 ρ).toList 0 wr hb; generalize World.setCells wr s 0 (arr 16 ρ).toList = Z at *))
      refine bodyPost_ret (results_cell_and rfl _ _ s 110 _ (0, 0) _ rfl HZ.out Tryz.underlying110 rfl (by rw [arr_size]; exact size44)) rfl ?_
      exact ⟨by rw [HR.out]; rfl, by rw [hs]; exact hbb⟩
end Go.Proofs.YtlejfkjanllgbaaGreatDoor

namespace Go.Proofs.YtlejfkjanllgbaaGreatDoor
open Go.RowKit
set_option linter.unusedVariables false

theorem ints_at {w : World} {a : Option Addr} {n : Nat} {f : Nat → Int} (h : Ints w a (listF n f)) (hn : 0 < n) : ∃ b off : Nat, a = some ⟨b, off, none⟩ ∧ b < w.heap.size ∧ ∀ k, k < n → w.cell? ⟨b, off + k, none⟩ = some (.int .i64 (f k)) := by
  rcases h with h | ⟨b, off, ha, hb, hc⟩
  · have := congrArg List.length h
    rw [listF_length] at this
    simp at this
    omega
  · refine ⟨b, off, ha, hb, fun k hk => ?_⟩
    have := hc k (by rw [listF_length]; exact hk)
    rwa [listF_get f hk] at this
theorem ints_cells {w : World} {a : Option Addr} {n : Nat} {f : Nat → Int} (h : Ints w a (listF n f)) (hn : 0 < n) : ∃ b off : Nat, a = some ⟨b, off, none⟩ ∧ Hid (∀ w', Below w.heap.size w w' → ∀ k, k < n → w'.cell? ⟨b, off + k, none⟩ = some (.int .i64 (f k))) := by
  obtain ⟨b, off, ha, hb, hc⟩ := ints_at h hn
  exact ⟨b, off, ha, fun w' hw k hk => (hw.cell (p := ⟨b, off + k, none⟩) hb).trans (hc k hk)⟩

theorem own_base {w : World} {B n s : Nat} {e : TypeId} {v : Value} {xs : List Value} (h : w.ownsRow B e s v n xs) : ∀ k, v.ownBlock = some k → B ≤ k := fun k hk => by
  rcases h.2 with ⟨rfl, _⟩ | ⟨g, cap, cur, rfl, hb, _⟩
  · simp [Value.ownBlock] at hk
  · simp [Value.ownBlock] at hk
    omega
/-- The first k numbers are put where they go. -/
def putTo (f : Nat → Int) (k i : Nat) : Int := if i < 16 ∧ i % 4 * 4 + i / 4 < k then flipF f i else 0
theorem putTo_set (f : Nat → Int) (k : Nat) (hk : k < 16) : ((listF 16 (putTo f k)).map (Value.int .i64)).set (k % 4 * 4 + k / 4) (.int .i64 (f k)) = (listF 16 (putTo f (k + 1))).map (Value.int .i64) := by
  unfold listF
  rw [List.map_map, List.map_map]
  have e : Value.int .i64 (f k) = (Value.int .i64 ∘ putTo f (k + 1)) (k % 4 * 4 + k / 4) := by
    simp only [Function.comp, putTo, flipF]
    rw [if_pos (by omega), show (k % 4 * 4 + k / 4) % 4 * 4 + (k % 4 * 4 + k / 4) / 4 = k by omega]
  rw [e]
  refine int_range_set 16 _ _ _ (fun i hi => ?_)
  simp only [Function.comp, putTo]
  by_cases h : i < 16 ∧ i % 4 * 4 + i / 4 < k
  · rw [if_pos h, if_pos (by omega)]
  · rw [if_neg h, if_neg (by omega)]
theorem putTo_none (f : Nat → Int) : (madeCells (Value.int .i64 0).cells (16 * 1)).toList = (listF 16 (putTo f 0)).map (Value.int .i64) := by
  rw [int_made]
  unfold listF
  rw [List.map_map]
  apply List.map_congr_left
  intro i hi
  simp [putTo]
theorem putTo_full (f : Nat → Int) : listF 16 (putTo f 16) = listF 16 (flipF f) := listF_congr fun i hi => by
  unfold putTo
  rw [if_pos ⟨hi, by omega⟩]

end Go.Proofs.YtlejfkjanllgbaaGreatDoor

namespace Go.Proofs.YtlejfkjanllgbaaGreatDoor
open Go.RowKit
set_option linter.unusedVariables false

/-- Turns of four of a list of numbers; nothing of any other list. -/
def fourL (xs : List Int) : List Int := if (decide (xs.length = 16) && inB 1000 xs) = true then listF 16 (turnF sumR (fun i => xs.getD i 0)) else []
def back4L (xs : List Int) : List Int := if (decide (xs.length = 16) && inB 10000000 xs) = true then listF 16 (fun i => (turnF bakR (fun i => xs.getD i 0) i + 32) / 64) else []

theorem fourL_le (xs : List Int) : (fourL xs).length ≤ 64 := by
  unfold fourL
  split
  · rw [listF_length]; omega
  · simp
theorem back4L_le (xs : List Int) : (back4L xs).length ≤ 64 := by
  unfold back4L
  split
  · rw [listF_length]; omega
  · simp
theorem in_of {M : Int} {n : Nat} {xs : List Int} (hl : xs.length = n) (h : inB M xs = true) : In M n (fun i => xs.getD i 0) := fun i hi => inB_iff.1 h i (by omega)

set_option maxHeartbeats 1600000 in
theorem implFour (a : Option Addr) (cap : Nat) (xs : List Int) (w : World) (h : Ints w a xs) (hl : xs.length ≤ maxLen) :
    Calls Tryz.prog 54 #[.slice a xs.length cap] w fun e w' => (∃ v, e = .returned v ∧ w'.ownsRow w.heap.size 3 1 v (fourL xs).length ((fourL xs).map (Value.int .i64))) ∧ Below w.heap.size w w' := by
  cases hb : (decide (xs.length = 16) && inB 1000 xs) with
  | true =>
    obtain ⟨hn, hin⟩ : xs.length = 16 ∧ inB 1000 xs = true := by simpa using hb
    have HL : Hid (fourL xs = listF 16 (turnF sumR (fun i => xs.getD i 0))) := by unfold fourL; exact if_pos hb
    have hI := in_of hn hin
    have HC := fourOf_yes a cap xs 1000 w h hl (by omega) (by omega) hn hin
    rw [hn] at HC ⊢
    obtain ⟨ρ, hρ⟩ : ∃ ρ : Nat → Int, (fun i => xs.getD i 0) = ρ := ⟨_, rfl⟩
    rw [hρ] at HL HC hI
    have HC' : Hid (Calls Tryz.prog 74 #[.slice a 16 cap, .int .i64 1000] w _) := HC
    have HT : Hid (∀ w', Calls Tryz.prog 75 #[.agg (arr 16 ρ), .func (Fn.func 76) #[] #[]] w' (fun e w'' => e = .returned (.agg (arr 16 (turnF sumR ρ))) ∧ Below w'.heap.size w' w'')) := fun w' => sums_turned ρ w' (fun i hi => by have := hI i hi; omega)
    clear hb hn hin h hl HC hI hρ
    go_enter Tryz.func54, Tryz.ntmps54
    go_wp2_with (first
      | (go_at_call 74; refine HC'.out.mono ?_; rintro e w1 ⟨rfl, hc1⟩)
      | ((with_reducible refine at_store ?_); generalize hV : World.alloc w1 _ = V; have b0 : Blk V w1.heap.size (arr 16 (fun _ => 0)) 110 := (by rw [← hV]; exact Blk.new w1 _ _); have hb := (show Below w.heap.size w V by rw [← hV]; exact hc1.alloc hc1.size _); have hb1 := (show Below w1.heap.size w1 V by rw [← hV]; exact (Below.refl _ _).alloc (Nat.le_refl _) _); clear hV; refine store_arr rfl _ _ _ rfl w1.heap.size 0 rfl 16 ρ rfl (there_of_arr b0 0 16 (by omega)) size44 ?_; have b2 : Blk (V.setCells w1.heap.size 0 (arr 16 ρ).toList) w1.heap.size (arr 16 ρ) 110 := (arr_store (k := ρ) b0 0 16 (by omega) (fun i hi => by rw [Nat.zero_add]) (fun i hi h => by omega)); have hb2 := below_setCells (g := w1.heap.size) hc1.size (arr 16 ρ).toList 0 V hb; clear b0 hb hb1; generalize World.setCells V w1.heap.size 0 (arr 16 ρ).toList = Z at *)
      | ((with_reducible refine at_load ?_); refine load_arr rfl _ _ rfl w1.heap.size 0 rfl 16 ρ (range_all b2) Tryz.underlying110 rfl size44 ?_; simp only [Act.put, List.setIfInBounds_toArray, List.set_cons_zero, List.set_cons_succ])
      | (go_at_call 75; refine (HT.out _).mono ?_; rintro e w2 ⟨rfl, hc2⟩)
      | (go_at_call 77; refine (fourList _ _).mono ?_; rintro e w3 ⟨⟨v, rfl, hv⟩, hc3⟩))
    go_ret
    rw [HL.out, listF_length]
    have h2 := hb2.trans (hc2.mono hb2.size)
    exact ⟨⟨_, rfl, own_mono hv h2.size⟩, h2.trans (hc3.mono h2.size)⟩
  | false =>
    have HL : Hid (fourL xs = []) := by unfold fourL; exact if_neg (by rw [hb]; decide)
    have HC' : Hid (Calls Tryz.prog 74 #[.slice a xs.length cap, .int .i64 1000] w _) := fourOf_no a cap xs 1000 w h hl (by omega) (by omega) hb
    clear hb h hl
    go_enter Tryz.func54, Tryz.ntmps54
    go_wp2_with (first
      | (go_at_call 74; refine HC'.out.mono ?_; rintro e w1 ⟨⟨ρ, rfl⟩, hc1⟩)
      | ((with_reducible refine at_store ?_); generalize hV : World.alloc w1 _ = V; have b0 : Blk V w1.heap.size (arr 16 (fun _ => 0)) 110 := (by rw [← hV]; exact Blk.new w1 _ _); have hb := (show Below w.heap.size w V by rw [← hV]; exact hc1.alloc hc1.size _); clear hV; refine store_arr rfl _ _ _ rfl w1.heap.size 0 rfl 16 ρ rfl (there_of_arr b0 0 16 (by omega)) size44 ?_; have hb2 := below_setCells (g := w1.heap.size) hc1.size (arr 16 ρ).toList 0 V hb; clear b0 hb; generalize World.setCells V w1.heap.size 0 (arr 16 ρ).toList = Z at *))
    go_ret
    rw [HL.out]
    exact ⟨⟨_, rfl, own_none Z hb2.size⟩, hb2.alloc hb2.size _⟩
set_option maxHeartbeats 1600000 in
theorem implFourBack (a : Option Addr) (cap : Nat) (xs : List Int) (w : World) (h : Ints w a xs) (hl : xs.length ≤ maxLen) :
    Calls Tryz.prog 60 #[.slice a xs.length cap] w fun e w' => (∃ v, e = .returned v ∧ w'.ownsRow w.heap.size 3 1 v (back4L xs).length ((back4L xs).map (Value.int .i64))) ∧ Below w.heap.size w w' := by
  cases hb : (decide (xs.length = 16) && inB 10000000 xs) with
  | true =>
    obtain ⟨hn, hin⟩ : xs.length = 16 ∧ inB 10000000 xs = true := by simpa using hb
    have HL : Hid (back4L xs = listF 16 (fun i => (turnF bakR (fun i => xs.getD i 0) i + 32) / 64)) := by unfold back4L; exact if_pos hb
    have hI := in_of hn hin
    have HC := fourOf_yes a cap xs 10000000 w h hl (by omega) (by omega) hn hin
    rw [hn] at HC ⊢
    obtain ⟨ρ, hρ⟩ : ∃ ρ : Nat → Int, (fun i => xs.getD i 0) = ρ := ⟨_, rfl⟩
    rw [hρ] at HL HC hI
    have HC' : Hid (Calls Tryz.prog 74 #[.slice a 16 cap, .int .i64 10000000] w _) := HC
    have HT : Hid (∀ w', Calls Tryz.prog 75 #[.agg (arr 16 ρ), .func (Fn.func 88) #[] #[]] w' (fun e w'' => e = .returned (.agg (arr 16 (turnF bakR ρ))) ∧ Below w'.heap.size w' w'')) := fun w' => baks_turned ρ w' (fun i hi => by have := hI i hi; omega)
    clear hb hn hin h hl HC hρ
    go_enter Tryz.func60, Tryz.ntmps60
    go_wp2_with (first
      | (go_at_call 74; refine HC'.out.mono ?_; rintro e w1 ⟨rfl, hc1⟩)
      | ((with_reducible refine at_store ?_); generalize hV : World.alloc w1 _ = V; have b0 : Blk V w1.heap.size (arr 16 (fun _ => 0)) 110 := (by rw [← hV]; exact Blk.new w1 _ _); have hb := (show Below w.heap.size w V by rw [← hV]; exact hc1.alloc hc1.size _); have hb1 := (show Below w1.heap.size w1 V by rw [← hV]; exact (Below.refl _ _).alloc (Nat.le_refl _) _); clear hV; refine store_arr rfl _ _ _ rfl w1.heap.size 0 rfl 16 ρ rfl (there_of_arr b0 0 16 (by omega)) size44 ?_; have b2 : Blk (V.setCells w1.heap.size 0 (arr 16 ρ).toList) w1.heap.size (arr 16 ρ) 110 := (arr_store (k := ρ) b0 0 16 (by omega) (fun i hi => by rw [Nat.zero_add]) (fun i hi h => by omega)); have hb2 := below_setCells (g := w1.heap.size) hc1.size (arr 16 ρ).toList 0 V hb; clear b0 hb hb1; generalize World.setCells V w1.heap.size 0 (arr 16 ρ).toList = Z at *)
      | ((with_reducible refine at_load ?_); refine load_arr rfl _ _ rfl w1.heap.size 0 rfl 16 ρ (range_all b2) Tryz.underlying110 rfl size44 ?_; simp only [Act.put, List.setIfInBounds_toArray, List.set_cons_zero, List.set_cons_succ])
      | (go_at_call 75; refine (HT.out _).mono ?_; rintro e w2 ⟨rfl, hc2⟩)
      | (go_at_call 77; refine (fourList _ _).mono ?_; rintro e w3 ⟨⟨v, rfl, hv⟩, hc3⟩; obtain ⟨gv, cv, rfl, hbv, hlv⟩ := hv.form (by omega)))
    have h2 := hb2.trans (hc2.mono hb2.size)
    have h3 := h2.trans (hc3.mono h2.size)
    have hv2 := own_mono hv h2.size
    clear hv hbv hlv hc2 hc3 b2 HT
    have HG : Hid (In 1000000000 16 (turnF bakR ρ)) := fun i hi => by have := (hI.back (by omega)) i hi; omega
    have hv3 := hv2
    rw [← downTo_none (turnF bakR ρ) 16] at hv3
    clear hv2
    generalize turnF bakR ρ = q at *
    generalize hs : w.heap.size = s at *
    go_loopw [21] (fun i wr => ∃ k : Nat, k ≤ 16 ∧ i = .int .i64 (k : Int) ∧ wr.ownsRow s 3 1 (.slice (some ⟨gv, 0, none⟩) 16 cv) 16 ((listF 16 (downTo q k)).map (Value.int .i64)) ∧ Below s w wr) (fun i _ => 16 - (intOf i).toNat)
    case atStart => exact ⟨0, by omega, rfl, hv3, h3⟩
    case round =>
      obtain ⟨k, hk, rfl, hown, hb⟩ := hrel
      clear hv3 h3
      by_cases hlt : k < 16
      · have l0 : (0 : Int) ≤ (k : Int) := by omega
        have l1 : (k : Int) < 16 := by omega
        have hcc := hown.cellAt k (by omega)
        rw [map_at _ hlt, downTo_at] at hcc
        have hfz := hown.frozenAt k
        have hst := hown.stored k (.int .i64 ((q k + 32) / 64))
        have hgs : s ≤ gv := own_base hown gv rfl
        have hbs := hb.grown hst.2 (by rw [← hs]; exact hb.size) (fun j hj => by cases hj; exact hgs)
        have hos := hst.1
        rw [downTo_set] at hos
        obtain ⟨y0, y1⟩ := HG.out k hlt
        generalize q k = x at *
        clear hst hown
        go_wp2_with (go_at_call 89; refine (down_any _ _ (by omega) (by omega)).mono ?_; rintro e w5 ⟨rfl, hw⟩; subst w5)
        refine ⟨⟨k + 1, by omega, by go_num, hos, hbs⟩, ?_⟩
        simp [intOf]; omega
      · obtain rfl : k = 16 := by omega
        rw [downTo_full] at hown
        go_wp2
        go_ret
        rw [HL.out, listF_length]
        exact ⟨⟨_, rfl, by rw [hs]; exact hown⟩, by rw [hs]; exact hb⟩
  | false =>
    have HL : Hid (back4L xs = []) := by unfold back4L; exact if_neg (by rw [hb]; decide)
    have HC' : Hid (Calls Tryz.prog 74 #[.slice a xs.length cap, .int .i64 10000000] w _) := fourOf_no a cap xs 10000000 w h hl (by omega) (by omega) hb
    clear hb h hl
    go_enter Tryz.func60, Tryz.ntmps60
    go_wp2_with (first
      | (go_at_call 74; refine HC'.out.mono ?_; rintro e w1 ⟨⟨ρ, rfl⟩, hc1⟩)
      | ((with_reducible refine at_store ?_); generalize hV : World.alloc w1 _ = V; have b0 : Blk V w1.heap.size (arr 16 (fun _ => 0)) 110 := (by rw [← hV]; exact Blk.new w1 _ _); have hb := (show Below w.heap.size w V by rw [← hV]; exact hc1.alloc hc1.size _); clear hV; refine store_arr rfl _ _ _ rfl w1.heap.size 0 rfl 16 ρ rfl (there_of_arr b0 0 16 (by omega)) size44 ?_; have hb2 := below_setCells (g := w1.heap.size) hc1.size (arr 16 ρ).toList 0 V hb; clear b0 hb; generalize World.setCells V w1.heap.size 0 (arr 16 ρ).toList = Z at *))
    go_ret
    rw [HL.out]
    exact ⟨⟨_, rfl, own_none Z hb2.size⟩, hb2.alloc hb2.size _⟩

end Go.Proofs.YtlejfkjanllgbaaGreatDoor

namespace Go.Proofs.YtlejfkjanllgbaaGreatDoor
open Go.RowKit
set_option linter.unusedVariables false

theorem sumR_add (j : Nat) (a b c d a' b' c' d' : Int) : sumR j (a + a') (b + b') (c + c') (d + d') = sumR j a b c d + sumR j a' b' c' d' := by
  unfold sumR
  split <;> omega
theorem rows_add (f g : Nat → Int) : rowsF sumR (fun i => f i + g i) = fun i => rowsF sumR f i + rowsF sumR g i := funext fun i => sumR_add _ _ _ _ _ _ _ _ _
theorem turn_add (f g : Nat → Int) : turnF sumR (fun i => f i + g i) = fun i => turnF sumR f i + turnF sumR g i := by
  unfold turnF
  rw [rows_add]
  have e : flipF (fun i => rowsF sumR f i + rowsF sumR g i) = fun i => flipF (rowsF sumR f) i + flipF (rowsF sumR g) i := rfl
  rw [e, rows_add]
  rfl
/-- The first one is the sum of all. -/
theorem turn_first (f : Nat → Int) : turnF sumR f 0 = sumTo f 16 := by
  simp [turnF, flipF, rowsF, sumR, sumTo]
  omega
/-- Of one number alone all sixteen come back. -/
theorem turn_alone (k : Int) : ∀ i, i < 16 → (turnF bakR (fun i => if i = 0 then 64 * k else 0) i + 32) / 64 = k := fun i hi => by
  have hc : i = 0 ∨ i = 1 ∨ i = 2 ∨ i = 3 ∨ i = 4 ∨ i = 5 ∨ i = 6 ∨ i = 7 ∨ i = 8 ∨ i = 9 ∨ i = 10 ∨ i = 11 ∨ i = 12 ∨ i = 13 ∨ i = 14 ∨ i = 15 := by omega
  rcases hc with rfl | rfl | rfl | rfl | rfl | rfl | rfl | rfl | rfl | rfl | rfl | rfl | rfl | rfl | rfl | rfl <;> simp [turnF, flipF, rowsF, bakR] <;> omega
theorem listF_last (n : Nat) (f : Nat → Int) : (listF n f).map (Value.int .i64) ++ [.int .i64 (f n)] = (listF (n + 1) f).map (Value.int .i64) := by
  unfold listF
  rw [List.range_succ, List.map_append, List.map_append]
  rfl
theorem inB_ofF {M : Int} {l : List Int} (h : ∀ x ∈ l, -M ≤ x ∧ x ≤ M) : inB M l = true := by
  unfold inB
  rw [List.all_eq_true]
  intro x hx
  have := h x hx
  simp [this.1, this.2]
theorem inB_listFF {M : Int} {n : Nat} {f : Nat → Int} (h : ∀ i, i < n → -M ≤ f i ∧ f i ≤ M) : inB M (listF n f) = true := inB_iff.2 fun i hi => by
  rw [listF_length] at hi
  rw [listF_get f hi]
  exact h i hi
theorem fourL_of {l : List Int} (hl : l.length = 16) (hx : ∀ i, i < 16 → -1000 ≤ l.getD i 0 ∧ l.getD i 0 ≤ 1000) : fourL l = listF 16 (turnF sumR (fun i => l.getD i 0)) := by
  unfold fourL
  rw [if_pos (by rw [inB_iff.2 (fun i hi => hx i (by omega))]; simpa using hl)]
theorem fourL_listF {f : Nat → Int} (hx : ∀ i, i < 16 → -1000 ≤ f i ∧ f i ≤ 1000) : fourL (listF 16 f) = listF 16 (turnF sumR f) := by
  rw [fourL_of (listF_length _ _) (fun i hi => by rw [listF_get f hi]; exact hx i hi)]
  exact listF_congr fun i hi => turn_congr (fun j hj => listF_get f hj) i hi
theorem backL_alone (k : Int) (h : -5000 ≤ k ∧ k ≤ 5000) : back4L (listF 16 (fun i => if i = 0 then 64 * k else 0)) = listF 16 (fun _ => k) := by
  unfold back4L
  rw [if_pos (by
    rw [listF_length, inB_listFF (M := 10000000) (fun i hi => by by_cases h0 : i = 0 <;> simp [h0] <;> omega)]
    rfl)]
  refine listF_congr fun i hi => ?_
  rw [turn_congr (g := fun i => if i = 0 then 64 * k else 0) (fun j hj => listF_get _ hj) i hi]
  exact turn_alone k i hi
end Go.Proofs.YtlejfkjanllgbaaGreatDoor

namespace Go.Proofs.YtlejfkjanllgbaaGreatDoor
open Go.RowKit
set_option linter.unusedVariables false

/-- How many of the three lowest figures are ones. -/
def pop3 (n : Nat) : Nat := n % 2 + n / 2 % 2 + n / 4 % 2
theorem i64_and (i k : Nat) (hi : i < 8) (hk : k < 8) : bits BinOp.and IntKind.i64 (i : Int) (k : Int) = ((i &&& k : Nat) : Int) := by
  have h : ∀ a b : Fin 8, bits BinOp.and IntKind.i64 (a.val : Int) (b.val : Int) = ((a.val &&& b.val : Nat) : Int) := by decide
  exact h ⟨i, hi⟩ ⟨k, hk⟩
set_option maxHeartbeats 1600000 in
theorem ones64 (n : Nat) (w : World) (hn : n < 8) : Calls Tryz.prog 130 #[.int .u64 (n : Int)] w fun e w' => e = .returned (.int .i64 (pop3 n : Int)) ∧ w' = w := by
  have hc : n = 0 ∨ n = 1 ∨ n = 2 ∨ n = 3 ∨ n = 4 ∨ n = 5 ∨ n = 6 ∨ n = 7 := by omega
  rcases hc with rfl | rfl | rfl | rfl | rfl | rfl | rfl | rfl
  all_goals
    go_enter Tryz.func130, Tryz.ntmps130
    go_wp2
    go_ret
    exact ⟨by kernel_rfl, rfl⟩
set_option maxHeartbeats 400000 in
theorem ones_any (n : Nat) (w : World) (hn : n < 8) : Calls Tryz.prog 128 #[.int .u64 (n : Int)] w fun e w' => e = .returned (.int .i64 (pop3 n : Int)) ∧ w' = w := by
  go_enter Tryz.func128, Tryz.ntmps128
  go_wp2_with (go_at_call 130; refine (ones64 n _ hn).mono ?_; rintro e w1 ⟨rfl, hw⟩; subst w1)
  go_ret
  exact ⟨rfl, rfl⟩
end Go.Proofs.YtlejfkjanllgbaaGreatDoor

namespace Go.Proofs.YtlejfkjanllgbaaGreatDoor
open Go.RowKit
set_option linter.unusedVariables false

set_option maxHeartbeats 400000 in
theorem placeOk (i : Int) (w : World) : Calls Tryz.prog 127 #[.int .i64 i] w fun e w' => e = .returned (.bool (decide (0 ≤ i) && decide (i < 8))) ∧ w' = w := by
  by_cases h1 : 0 ≤ i
  · go_enter Tryz.func127, Tryz.ntmps127
    go_wp2
    all_goals go_ret
    all_goals exact ⟨by simp; omega, rfl⟩
  · go_enter Tryz.func127, Tryz.ntmps127
    go_wp2
    all_goals go_ret
    all_goals exact ⟨by simp; omega, rfl⟩

set_option maxHeartbeats 800000 in
theorem implSign (i k : Nat) (w : World) (hi : i < 8) (hk : k < 8) : Calls Tryz.prog 125 #[.int .i64 (i : Int), .int .i64 (k : Int)] w fun e w' => e = .returned (.int .i64 (sg i k)) ∧ w' = w := by
  have PI : Hid (∀ w', Calls Tryz.prog 127 #[.int .i64 (i : Int)] w' (fun e w'' => e = .returned (.bool true) ∧ w'' = w')) := fun w' => by
    have := placeOk (i : Int) w'
    rwa [show (decide (0 ≤ (i : Int)) && decide ((i : Int) < 8)) = true by simp; omega] at this
  have PK : Hid (∀ w', Calls Tryz.prog 127 #[.int .i64 (k : Int)] w' (fun e w'' => e = .returned (.bool true) ∧ w'' = w')) := fun w' => by
    have := placeOk (k : Int) w'
    rwa [show (decide (0 ≤ (k : Int)) && decide ((k : Int) < 8)) = true by simp; omega] at this
  have he := i64_and i k hi hk
  have hn := and_lt (k := k) hi
  have HV : Hid (sg i k = sgn (i &&& k)) := rfl
  generalize i &&& k = n at *
  have hw1 : IntKind.u64.wrap (n : Int) = (n : Int) := by rw [IntKind.wrap_u64]; omega
  have HO : Hid (∀ w', Calls Tryz.prog 128 #[.int .u64 (n : Int)] w' (fun e w'' => e = .returned (.int .i64 (pop3 n : Int)) ∧ w'' = w')) := fun w' => ones_any n w' hn
  have HS : Hid (sgn n = if pop3 n % 2 = 0 then 1 else -1) := rfl
  have hp : (pop3 n : Int) ≤ 3 := by unfold pop3; omega
  have hp0 : (0 : Int) ≤ (pop3 n : Int) := by omega
  clear hn
  generalize pop3 n = q at *
  by_cases hq : q % 2 = 0
  · have HR : Hid (sg i k = 1) := by show _ = _; rw [HV.out, HS.out, if_pos hq]
    have hq1 : (q : Int) % 2 = 0 := by omega
    clear HV HS hq hi hk
    go_enter Tryz.func125, Tryz.ntmps125
    go_wp2_with (first
      | (first | (go_at_call_of 127 (Value.int IntKind.i64 (i : Int)); refine (PI.out _).mono ?_; rintro e w1 ⟨rfl, hw⟩; subst w1) | (go_at_call_of 127 (Value.int IntKind.i64 (k : Int)); refine (PK.out _).mono ?_; rintro e w1 ⟨rfl, hw⟩; subst w1))
      | (go_at_call 128; refine (HO.out _).mono ?_; rintro e w1 ⟨rfl, hw⟩; subst w1))
    go_ret
    exact ⟨by rw [HR.out]; rfl, rfl⟩
  · have HR : Hid (sg i k = -1) := by show _ = _; rw [HV.out, HS.out, if_neg hq]
    have hq1 : (q : Int) % 2 = 1 := by omega
    clear HV HS hq hi hk
    go_enter Tryz.func125, Tryz.ntmps125
    go_wp2_with (first
      | (first | (go_at_call_of 127 (Value.int IntKind.i64 (i : Int)); refine (PI.out _).mono ?_; rintro e w1 ⟨rfl, hw⟩; subst w1) | (go_at_call_of 127 (Value.int IntKind.i64 (k : Int)); refine (PK.out _).mono ?_; rintro e w1 ⟨rfl, hw⟩; subst w1))
      | (go_at_call 128; refine (HO.out _).mono ?_; rintro e w1 ⟨rfl, hw⟩; subst w1))
    go_ret
    exact ⟨by rw [HR.out]; rfl, rfl⟩
set_option maxHeartbeats 800000 in
theorem implSign_no (i k : Int) (w : World) (h : ¬ ((0 ≤ i ∧ i < 8) ∧ 0 ≤ k ∧ k < 8)) : Calls Tryz.prog 125 #[.int .i64 i, .int .i64 k] w fun e w' => e = .returned (.int .i64 0) ∧ w' = w := by
  by_cases hi : 0 ≤ i ∧ i < 8
  · have PI : Hid (∀ w', Calls Tryz.prog 127 #[.int .i64 i] w' (fun e w'' => e = .returned (.bool true) ∧ w'' = w')) := fun w' => by
      have := placeOk i w'
      rwa [show (decide (0 ≤ i) && decide (i < 8)) = true by simp; omega] at this
    have PK : Hid (∀ w', Calls Tryz.prog 127 #[.int .i64 k] w' (fun e w'' => e = .returned (.bool false) ∧ w'' = w')) := fun w' => by
      have := placeOk k w'
      rwa [show (decide (0 ≤ k) && decide (k < 8)) = false by simp; omega] at this
    clear h hi
    go_enter Tryz.func125, Tryz.ntmps125
    go_wp2_with (first | (go_at_call_of 127 (Value.int IntKind.i64 i); refine (PI.out _).mono ?_; rintro e w1 ⟨rfl, hw⟩; subst w1) | (go_at_call_of 127 (Value.int IntKind.i64 k); refine (PK.out _).mono ?_; rintro e w1 ⟨rfl, hw⟩; subst w1))
    go_ret
    exact ⟨rfl, rfl⟩
  · have PI : Hid (∀ w', Calls Tryz.prog 127 #[.int .i64 i] w' (fun e w'' => e = .returned (.bool false) ∧ w'' = w')) := fun w' => by
      have := placeOk i w'
      rwa [show (decide (0 ≤ i) && decide (i < 8)) = false by simp; omega] at this
    clear h hi
    go_enter Tryz.func125, Tryz.ntmps125
    go_wp2_with (go_at_call 127; refine (PI.out _).mono ?_; rintro e w1 ⟨rfl, hw⟩; subst w1)
    go_ret
    exact ⟨rfl, rfl⟩

end Go.Proofs.YtlejfkjanllgbaaGreatDoor

namespace Go.Proofs.YtlejfkjanllgbaaGreatDoor
open Go.RowKit
set_option linter.unusedVariables false

theorem size55 : (Tryz.prog.info? 125).map (·.size) = some 64 := by kernel_rfl
theorem size53 : (Tryz.prog.info? 123).map (·.size) = some 8 := by kernel_rfl
/-- Numbers of at most M, of both signs. -/
def Wi (M : Int) (n : Nat) (f : Nat → Int) : Prop := ∀ i, i < n → -M ≤ f i ∧ f i ≤ M

set_option maxHeartbeats 800000 in
theorem sum_any (r : Nat → Int) (u : Nat) (w : World) (hr : Wi 100000000 8 r) (hu : u < 8) :
    Calls Tryz.prog 117 #[.agg (arr 8 r), .int .i64 (u : Int)] w fun e w' => e = .returned (.int .i64 (dot u r)) ∧ Below w.heap.size w w' := by
  have HR : Hid (Wi 100000000 8 r) := hr
  have HD : Hid (dot u r = sumTo (fun p => sg u p * r p) 8) := rfl
  have HB : Hid (∀ k : Nat, k ≤ 8 → -((k : Int) * 100000000) ≤ sumTo (fun p => sg u p * r p) k ∧ sumTo (fun p => sg u p * r p) k ≤ (k : Int) * 100000000) := fun k hk => sumTo_bd (fun i hi => sg_bd u i (hr i (by omega)))
  have HC : Hid (∀ (k : Nat) w', k < 8 → Calls Tryz.prog 125 #[.int .i64 (u : Int), .int .i64 (k : Int)] w' (fun e w'' => e = .returned (.int .i64 (sg u k)) ∧ w'' = w')) := fun k w' hk => implSign u k w' hu hk
  clear hr hu
  go_enter Tryz.func117, Tryz.ntmps117
  go_wp2_with fail
  generalize hW : World.alloc w _ = W
  have B0 : Blk W w.heap.size (arr 8 r) 123 := by rw [← hW]; exact Blk.new w _ _
  have hb0 : Below w.heap.size w W := by rw [← hW]; exact (Below.refl _ _).alloc (Nat.le_refl _) _
  clear hW
  generalize hs : w.heap.size = s at *
  go_loopw [5, 7] (fun v i wr => ∃ k : Nat, k ≤ 8 ∧ i = .int .i64 (k : Int) ∧ v = .int .i64 (sumTo (fun p => sg u p * r p) k) ∧ Blk wr s (arr 8 r) 123 ∧ Below s w wr) (fun _ i _ => 8 - (intOf i).toNat)
  case atStart => exact ⟨0, by omega, rfl, rfl, B0, hb0⟩
  case round =>
    obtain ⟨k, hk, rfl, rfl, b0, hb⟩ := hrel
    clear B0 hb0
    by_cases hlt : k < 8
    · have l0 : (0 : Int) ≤ (k : Int) := by omega
      have l1 : (k : Int) < 8 := by omega
      obtain ⟨t0, t1⟩ := HB.out k hk
      obtain ⟨x0, x1⟩ := HR.out k hlt
      have d0 : wr.cell? ⟨s, k, none⟩ = some (.int .i64 (r k)) := by rw [b0.cell, arr_get r hlt]
      have HN : Hid (sumTo (fun p => sg u p * r p) (k + 1) = sumTo (fun p => sg u p * r p) k + sg u k * r k) := rfl
      have HCk : Hid (∀ w', Calls Tryz.prog 125 #[.int .i64 (u : Int), .int .i64 (k : Int)] w' (fun e w'' => e = .returned (.int .i64 (sg u k)) ∧ w'' = w')) := fun w' => HC.out k w' hlt
      have hsg := sg_one u k
      generalize sumTo (fun p => sg u p * r p) k = t at *
      generalize r k = x at *
      have hk8 : (k : Int) ≤ 8 := by omega
      have tb0 : -800000000 ≤ t := by omega
      have tb1 : t ≤ 800000000 := by omega
      clear t0 t1
      rcases hsg with h1 | h1
      · rw [h1] at HN HCk
        clear h1
        go_wp2_with fail
        go_quiet ((go_at_call 125; exact Calls.quiet_of_same (HCk.out _)))
        go_wp2
        refine ⟨⟨k + 1, by omega, by go_num, by rw [HN.out]; go_num, b0, below_drewN hb _⟩, ?_⟩
        simp [intOf]; omega
      · rw [h1] at HN HCk
        clear h1
        go_wp2_with fail
        go_quiet ((go_at_call 125; exact Calls.quiet_of_same (HCk.out _)))
        go_wp2
        refine ⟨⟨k + 1, by omega, by go_num, by rw [HN.out]; go_num, b0, below_drewN hb _⟩, ?_⟩
        simp [intOf]; omega
    · obtain rfl : k = 8 := by omega
      go_wp2
      go_ret
      exact ⟨by rw [HD.out]; rfl, by rw [hs]; exact hb⟩
end Go.Proofs.YtlejfkjanllgbaaGreatDoor

namespace Go.Proofs.YtlejfkjanllgbaaGreatDoor
open Go.RowKit
set_option linter.unusedVariables false

/-- The first r columns are laid, and c of the next one. -/
def crossTo (f : Nat → Int) (r c i : Nat) : Int := if i % 8 < r ∨ (i % 8 = r ∧ i / 8 < c) then crossF f i else 0
theorem crossTo_none (f : Nat → Int) : arr 64 (crossTo f 0 0) = arr 64 (fun _ => 0) := arr_congr fun i hi => by
  unfold crossTo
  rw [if_neg (by omega)]
theorem crossTo_hit (f : Nat → Int) (r c : Nat) (hr : r < 8) (hc : c < 8) : crossTo f r (c + 1) (c * 8 + r) = dot c (fun p => f (r * 8 + p)) := by
  unfold crossTo
  rw [if_pos (by omega), crossF_at f c r hr]
theorem crossTo_not (f : Nat → Int) (r c : Nat) (hr : r < 8) (hc : c < 8) : ∀ i, i ≠ c * 8 + r → crossTo f r (c + 1) i = crossTo f r c i := fun i hi => by
  unfold crossTo
  by_cases h : i % 8 < r ∨ (i % 8 = r ∧ i / 8 < c)
  · rw [if_pos h, if_pos (by omega)]
  · rw [if_neg h, if_neg (by omega)]
theorem crossTo_next (f : Nat → Int) (r : Nat) : arr 64 (crossTo f r 8) = arr 64 (crossTo f (r + 1) 0) := arr_congr fun i hi => by
  unfold crossTo
  by_cases h : i % 8 < r + 1
  · rw [if_pos (by omega), if_pos (by omega)]
  · rw [if_neg (by omega), if_neg (by omega)]
theorem crossTo_full (f : Nat → Int) : arr 64 (crossTo f 8 0) = arr 64 (crossF f) := arr_congr fun i hi => by
  unfold crossTo
  rw [if_pos (by omega)]

set_option maxHeartbeats 3200000 in
theorem crossed_any (f : Nat → Int) (w : World) (hf : Wi 100000000 64 f) :
    Calls Tryz.prog 109 #[.agg (arr 64 f)] w fun e w' => e = .returned (.agg (arr 64 (crossF f))) ∧ Below w.heap.size w w' := by
  have HF : Hid (Wi 100000000 64 f) := hf
  clear hf
  go_enter Tryz.func109, Tryz.ntmps109
  go_wp2_with fail
  generalize hW : World.alloc (World.alloc (World.alloc w _) _) _ = W
  have B0 : Blk W w.heap.size (arr 64 f) 125 := by rw [← hW]; exact ((Blk.new w _ _).alloc _).alloc _
  have B1 : Blk W (w.heap.size + 1) (arr 64 (fun _ => 0)) 125 := by rw [← hW]; exact (Blk.new' _ _ (by simp)).alloc _
  have B2 : Blk W (w.heap.size + 1 + 1) (arr 64 (fun _ => 0)) 125 := by rw [← hW]; exact Blk.new' _ _ (by simp)
  have hb0 : Below w.heap.size w W := by rw [← hW]; exact (((Below.refl _ _).alloc (Nat.le_refl _) _).alloc (by simp) _).alloc (by simp; omega) _
  clear hW
  generalize hs : w.heap.size = s at *
  go_loopw [6] (fun i wr => ∃ r : Nat, r ≤ 8 ∧ i = .int .i64 (r : Int) ∧ Blk wr s (arr 64 f) 125 ∧ Blk wr (s + 1) (arr 64 (fun _ => 0)) 125 ∧ Blk wr (s + 1 + 1) (arr 64 (crossTo f r 0)) 125 ∧ Below s w wr) (fun i _ => 8 - (intOf i).toNat)
  case atStart => exact ⟨0, by omega, rfl, B0, B1, by rw [crossTo_none]; exact B2, hb0⟩
  case round =>
    obtain ⟨r, hr, rfl, b0, b1, b2, hb⟩ := hrel
    clear B0 B1 B2 hb0
    by_cases hlt : r < 8
    · have l0 : (0 : Int) ≤ (r : Int) := by omega
      have l1 : (r : Int) < 8 := by omega
      obtain ⟨ρ, hρ⟩ : ∃ ρ : Nat → Int, ρ = fun p => f (r * 8 + p) := ⟨_, rfl⟩
      have HW : Hid (Wi 100000000 8 ρ) := fun i hi => by rw [hρ]; exact HF.out _ (by omega)
      have HR : Hid (ρ = fun p => f (r * 8 + p)) := hρ
      clear hρ
      go_wp2_with fail
      go_loopw [9] (fun i wr => ∃ c : Nat, c ≤ 8 ∧ i = .int .i64 (c : Int) ∧ Blk wr s (arr 64 f) 125 ∧ Blk wr (s + 1) (arr 64 (fun _ => 0)) 125 ∧ Blk wr (s + 1 + 1) (arr 64 (crossTo f r c)) 125 ∧ Below s w wr) (fun i _ => 8 - (intOf i).toNat)
      case atStart => exact ⟨0, by omega, rfl, b0, b1, b2, hb⟩
      case round =>
        obtain ⟨c, hc, rfl, c0, c1, c2, hd⟩ := hrel
        clear b0 b1 b2 hb
        by_cases hlc : c < 8
        · have q0 : (0 : Int) ≤ (c : Int) := by omega
          have q1 : (c : Int) < 8 := by omega
          have HC0 : ∀ w', Calls Tryz.prog 117 #[.agg (arr 8 ρ), .int .i64 (c : Int)] w' (fun e w'' => e = .returned (.int .i64 (dot c ρ)) ∧ Below w'.heap.size w' w'') := fun w' => sum_any ρ c w' HW.out hlc
          have HD : Hid (crossTo f r (c + 1) (c * 8 + r) = dot c ρ) := by show _ = _; rw [crossTo_hit f r c hlt hlc, HR.out]
          obtain ⟨x0, x1, x2, x3, x4, x5, x6, x7, hx⟩ : ∃ x0 x1 x2 x3 x4 x5 x6 x7 : Int, ∀ w', Blk w' s (arr 64 f) 125 → (w'.cell? ⟨s, r * 8, none⟩ = some (.int .i64 x0) ∧ w'.cell? ⟨s, r * 8 + 1, none⟩ = some (.int .i64 x1) ∧ w'.cell? ⟨s, r * 8 + 2, none⟩ = some (.int .i64 x2) ∧ w'.cell? ⟨s, r * 8 + 3, none⟩ = some (.int .i64 x3) ∧ w'.cell? ⟨s, r * 8 + 4, none⟩ = some (.int .i64 x4) ∧ w'.cell? ⟨s, r * 8 + 5, none⟩ = some (.int .i64 x5) ∧ w'.cell? ⟨s, r * 8 + 6, none⟩ = some (.int .i64 x6) ∧ w'.cell? ⟨s, r * 8 + 7, none⟩ = some (.int .i64 x7)) ∧ arr 8 ρ = #[.int .i64 x0, .int .i64 x1, .int .i64 x2, .int .i64 x3, .int .i64 x4, .int .i64 x5, .int .i64 x6, .int .i64 x7] :=
            ⟨f (r * 8 + 0), f (r * 8 + 1), f (r * 8 + 2), f (r * 8 + 3), f (r * 8 + 4), f (r * 8 + 5), f (r * 8 + 6), f (r * 8 + 7), fun w' h => ⟨⟨by rw [h.cell, arr_get f (by omega)]; rfl, by rw [h.cell, arr_get f (by omega)], by rw [h.cell, arr_get f (by omega)], by rw [h.cell, arr_get f (by omega)], by rw [h.cell, arr_get f (by omega)], by rw [h.cell, arr_get f (by omega)], by rw [h.cell, arr_get f (by omega)], by rw [h.cell, arr_get f (by omega)]⟩, by rw [HR.out]; rfl⟩⟩
          have hx8 := (hx wr c0).2
          rw [hx8] at HC0
          have HC : Hid (∀ w', Calls Tryz.prog 117 #[.agg #[.int .i64 x0, .int .i64 x1, .int .i64 x2, .int .i64 x3, .int .i64 x4, .int .i64 x5, .int .i64 x6, .int .i64 x7], .int .i64 (c : Int)] w' (fun e w'' => e = .returned (.int .i64 (dot c ρ)) ∧ Below w'.heap.size w' w'')) := HC0
          have hce : wr.cell? ⟨s + 1 + 1, c * 8 + r, none⟩ = some (.int .i64 (crossTo f r c (c * 8 + r))) := by rw [c2.cell, arr_get _ (by omega)]
          have hfz : wr.frozen? ⟨s + 1 + 1, c * 8 + r, none⟩ = false := c2.frozen _
          have HY : Hid (∀ w', Blk w' (s + 1 + 1) (arr 64 (crossTo f r c)) 125 → w'.cell? ⟨s + 1 + 1, c * 8 + r, none⟩ = some (.int .i64 (crossTo f r c (c * 8 + r))) ∧ w'.frozen? ⟨s + 1 + 1, c * 8 + r, none⟩ = false) := fun w' h => ⟨by rw [h.cell, arr_get _ (by omega)], h.frozen _⟩
          clear hx8 HC0
          generalize crossTo f r c (c * 8 + r) = y at *
          generalize dot c ρ = z at *
          obtain ⟨⟨e0, e1, e2, e3, e4, e5, e6, e7⟩, _⟩ := hx wr c0
          have HK : Hid (∀ w', Below wr.heap.size wr w' → w'.cell? ⟨s, r * 8, none⟩ = some (.int .i64 x0) ∧ w'.cell? ⟨s, r * 8 + 1, none⟩ = some (.int .i64 x1) ∧ w'.cell? ⟨s, r * 8 + 2, none⟩ = some (.int .i64 x2) ∧ w'.cell? ⟨s, r * 8 + 3, none⟩ = some (.int .i64 x3) ∧ w'.cell? ⟨s, r * 8 + 4, none⟩ = some (.int .i64 x4) ∧ w'.cell? ⟨s, r * 8 + 5, none⟩ = some (.int .i64 x5) ∧ w'.cell? ⟨s, r * 8 + 6, none⟩ = some (.int .i64 x6) ∧ w'.cell? ⟨s, r * 8 + 7, none⟩ = some (.int .i64 x7) ∧ w'.cell? ⟨s + 1 + 1, c * 8 + r, none⟩ = some (.int .i64 y) ∧ w'.frozen? ⟨s + 1 + 1, c * 8 + r, none⟩ = false) := fun w' h => by
            obtain ⟨⟨e0, e1, e2, e3, e4, e5, e6, e7⟩, _⟩ := hx w' (c0.below h c0.lt)
            obtain ⟨e8, e9⟩ := HY.out w' (c2.below h c2.lt)
            exact ⟨e0, e1, e2, e3, e4, e5, e6, e7, e8, e9⟩
          clear hx HY
          go_wp2_with fail
          go_region_with ((go_at_call 117; refine (HC.out _).mono ?_; rintro e w2 ⟨rfl, hx⟩; have hcA : Below wr.heap.size wr w2 := (Below.refl _ _).drew.trans (hx.mono (Nat.le_refl _)); clear hx; obtain ⟨_, _, _, _, _, _, _, _, e8, e9⟩ := HK.out _ hcA))
          have z2 := (c2.below hcA c2.lt).set (c * 8 + r) (.int .i64 z) (by rw [arr_size]; omega)
          rw [arr_set (g := crossTo f r (c + 1)) z HD.out (crossTo_not f r c hlt hlc)] at z2
          have z1 := (c1.below hcA c1.lt).other ⟨s + 1 + 1, c * 8 + r, none⟩ (.int .i64 z) (by simp)
          have z0 := (c0.below hcA c0.lt).other ⟨s + 1 + 1, c * 8 + r, none⟩ (.int .i64 z) (by simp; omega)
          have zb := (hd.trans (hcA.mono (by rw [← hs]; exact hd.size))).setCell (p := ⟨s + 1 + 1, c * 8 + r, none⟩) (by simp; omega) (.int .i64 z)
          go_wp2
          refine ⟨⟨c + 1, by omega, by go_num, z0, z1, z2, zb⟩, ?_⟩
          simp [intOf]; omega
        · obtain rfl : c = 8 := by omega
          rw [crossTo_next] at c2
          go_wp2_with fail
          refine ⟨⟨r + 1, by omega, by go_num, c0, c1, c2, hd⟩, ?_⟩
          simp [intOf]; omega
    · obtain rfl : r = 8 := by omega
      rw [crossTo_full] at b2
      obtain ⟨ρ, hρ⟩ : ∃ ρ, ρ = crossF f := ⟨_, rfl⟩
      have HR : Hid (crossF f = ρ) := hρ.symm
      rw [← hρ] at b2
      clear hρ
      have HZ : Hid (Blk (wr.setCells (s + 1) 0 (arr 64 ρ).toList) (s + 1) (arr 64 ρ) 125) := arr_store (k := ρ) b1 0 64 (by omega) (fun i hi => by rw [Nat.zero_add]) (fun i hi h => by omega)
      have hbb := below_setCells (g := s + 1) (by omega) (arr 64 ρ).toList 0 wr hb
      have rg := range_all b2
      have th := there_of_arr b1 0 64 (by omega)
      clear b0 b1 b2 hb hlt hr
      go_wp2_with (first
        | ((with_reducible refine at_load ?_); refine load_arr rfl _ _ rfl (s + 1 + 1) 0 rfl 64 ρ rg Tryz.underlying125 rfl size55 ?_; simp only [Act.put, List.setIfInBounds_toArray, List.set_cons_zero, List.set_cons_succ])
        | ((with_reducible refine at_store ?_); refine store_arr rfl _ _ _ rfl (s + 1) 0 rfl 64 ρ rfl th size55 ?_; clear th rg; generalize World.setCells wr (s + 1) 0 (arr 64 ρ).toList = wz at *))
      refine bodyPost_ret (results_cell_row rfl _ _ (s + 1) 125 _ (0, 0) _ rfl HZ.out Tryz.underlying125 rfl (by rw [arr_size]; exact size55)) rfl ?_
      exact ⟨by rw [HR.out], by rw [hs]; exact hbb⟩
end Go.Proofs.YtlejfkjanllgbaaGreatDoor

namespace Go.Proofs.YtlejfkjanllgbaaGreatDoor
open Go.RowKit
set_option linter.unusedVariables false

set_option maxHeartbeats 1600000 in
theorem eightTurned (f : Nat → Int) (w : World) (hf : Wi 12500000 64 f) :
    Calls Tryz.prog 91 #[.agg (arr 64 f)] w fun e w' => e = .returned (.agg (arr 64 (eightF f))) ∧ Below w.heap.size w w' := by
  have H1 : Hid (∀ w', Calls Tryz.prog 109 #[.agg (arr 64 f)] w' (fun e w'' => e = .returned (.agg (arr 64 (crossF f))) ∧ Below w'.heap.size w' w'')) := fun w' => crossed_any f w' (fun i hi => by have := hf i hi; omega)
  have H2 : Hid (∀ w', Calls Tryz.prog 109 #[.agg (arr 64 (crossF f))] w' (fun e w'' => e = .returned (.agg (arr 64 (eightF f))) ∧ Below w'.heap.size w' w'')) := fun w' => crossed_any (crossF f) w' (fun i hi => by have := crossF_bd hf i hi; omega)
  obtain ⟨f2, hf2⟩ : ∃ g, eightF f = g := ⟨_, rfl⟩
  have HF : Hid (eightF f = f2) := hf2
  rw [hf2] at H2
  clear hf2
  generalize crossF f = f1 at *
  go_enter Tryz.func91, Tryz.ntmps91
  go_wp2_with (first
    | ((with_reducible refine at_load ?_); (generalize hV : World.alloc (World.alloc w _) _ = V; have b0 : Blk V w.heap.size (arr 64 f) 125 := (by rw [← hV]; exact (Blk.new w _ _).alloc _); have b1 : Blk V (w.heap.size + 1) (arr 64 (fun _ => 0)) 125 := (by rw [← hV]; exact Blk.new' _ _ (by simp)); have hb : Below w.heap.size w V := (by rw [← hV]; exact ((Below.refl _ _).alloc (Nat.le_refl _) _).alloc (by simp) _); clear hV; refine load_arr rfl _ _ rfl w.heap.size 0 rfl 64 f (range_all b0) Tryz.underlying125 rfl size55 ?_; simp only [Act.put, List.setIfInBounds_toArray, List.set_cons_zero, List.set_cons_succ]))
    | (go_at_call 109; first | (have hx := hc1; refine (H2.out _).mono ?_; rintro e w2 ⟨rfl, hc⟩; have hc2 := hc1.trans (hc.mono hc1.size); have z1 := b1.below hc2 b1.lt; have zb := hb.trans (hc2.mono hb.size); clear hc1 hc hc2) | (refine (H1.out _).mono ?_; rintro e w1 ⟨rfl, hc1⟩))
    | ((with_reducible refine at_store ?_); refine store_arr rfl _ _ _ rfl (w.heap.size + 1) 0 rfl 64 f2 rfl (there_of_arr z1 0 64 (by omega)) size55 ?_; have HZ : Hid (Blk (w2.setCells (w.heap.size + 1) 0 (arr 64 f2).toList) (w.heap.size + 1) (arr 64 f2) 125) := (arr_store (k := f2) z1 0 64 (by omega) (fun i hi => by rw [Nat.zero_add]) (fun i hi h => by omega)); have hbb := below_setCells (g := w.heap.size + 1) (by omega) (arr 64 f2).toList 0 w2 zb; generalize World.setCells w2 (w.heap.size + 1) 0 (arr 64 f2).toList = Z at *))
  refine bodyPost_ret (results_cell_row rfl _ _ (w.heap.size + 1) 125 _ (0, 0) _ rfl HZ.out Tryz.underlying125 rfl (by rw [arr_size]; exact size55)) rfl ?_
  exact ⟨by rw [HF.out], hbb⟩

theorem slice_eight (W : World) (g o : Nat) :
    (Instr.sliceAt 123 (.pointer (some ⟨g, o, none⟩)) none none none).run Tryz.prog W = .ok (.slice (some ⟨g, o, none⟩) 8 8) W := by
  have ha : Tryz.prog.arrayLen 123 = 8 := by kernel_rfl
  have he : Tryz.prog.elem 123 = 3 := by kernel_rfl
  rw [run_sliceAt_array_all W 123 ⟨g, o, none⟩ (by rw [ha, he]; exact Tryz.underlying123), he, ha, Tryz.sizeOf3]
  simp [Result.andThen, slicedAt, Addr.add]
theorem arr_list8 (n : Nat) (f : Nat → Int) : (arr n f).toList = (listF n f).map (Value.int .i64) := by
  simp [arr, listF]

set_option maxHeartbeats 1600000 in
theorem eightList (f : Nat → Int) (w : World) :
    Calls Tryz.prog 92 #[.agg (arr 64 f)] w fun e w' => (∃ v, e = .returned v ∧ w'.ownsRow w.heap.size 3 1 v 64 ((listF 64 f).map (Value.int .i64))) ∧ Below w.heap.size w w' := by
  obtain ⟨i0, hi0, hz0, hz1, hz2⟩ := info_parts infoI
  go_enter Tryz.func92, Tryz.ntmps92
  go_wp2_with (at_make; refine wpList_make_own _ rfl _ _ 24 rfl w.heap.size 3 i0 (.int .i64 0) 1 Tryz.underlying24 hi0 hz0 hz1 .i64 .i64 _ 64 rfl rfl rfl (by rw [hz2]; omega) (by unfold maxLen; omega) (by simp) ?_; intro w1 hown0 hgrow0; have b0 : Blk w1 w.heap.size (arr 64 f) 125 := (Blk.new w _ _).grew hgrow0 (by simp); have hb0 : Below w.heap.size w w1 := ((Below.refl _ _).alloc (Nat.le_refl _) _).grown hgrow0 (by simp) (fun j hj => by cases hj); clear hgrow0)
  have hsl := slice_eight
  go_loopw [3, 6] (fun v i wr => ∃ k : Nat, k ≤ 8 ∧ i = .int .i64 (k : Int) ∧ v = .slice (some ⟨w.heap.size + 1, 0, none⟩) (8 * k) 64 ∧ wr.ownsRow w.heap.size 3 1 (.slice (some ⟨w.heap.size + 1, 0, none⟩) (8 * k) 64) (8 * k) ((listF (8 * k) f).map (Value.int .i64)) ∧ Blk wr w.heap.size (arr 64 f) 125 ∧ Below w.heap.size w wr) (fun _ i _ => 8 - (intOf i).toNat)
  case atStart => exact ⟨0, by omega, rfl, by simp, by simpa [listF] using hown0, b0, hb0⟩
  case round =>
    obtain ⟨k, hk, rfl, rfl, hown, c0, hb⟩ := hrel
    clear hown0 hb0 b0
    by_cases hlt : k < 8
    · have l0 : (0 : Int) ≤ (k : Int) := by omega
      have l1 : (k : Int) < 8 := by omega
      obtain ⟨ρ, hρ⟩ : ∃ ρ : Nat → Int, ρ = fun i => f (k * 8 + i) := ⟨_, rfl⟩
      have HL : Hid ((listF (8 * k) f).map (Value.int .i64) ++ (arr 8 ρ).toList = (listF (8 * (k + 1)) f).map (Value.int .i64)) := by
        show _ = _
        rw [arr_list8, ← List.map_append, hρ, Nat.mul_comm k 8, listF_append]
        rfl
      have hnew : ∀ j u, (arr 8 ρ).toList[j]? = some u → wr.cell? ((⟨w.heap.size, k * 8, none⟩ : Addr).add j) = some u := fun j u hu => by
        rw [Addr.add_mid]
        have := range_of_arr c0 (k * 8) 8 (by omega)
        rw [← hρ] at this
        exact this j u hu
      have HN : Hid (∀ j u, (arr 8 ρ).toList[j]? = some u → wr.cell? ((⟨w.heap.size, k * 8, none⟩ : Addr).add j) = some u) := hnew
      clear hnew hρ
      go_wp2_with (at_builtin; refine wpList_append_fits _ rfl _ _ 24 rfl w.heap.size 3 i0 1 Tryz.underlying24 hi0 hz1 (w.heap.size + 1) (8 * k) 64 _ rfl hown ⟨w.heap.size, k * 8, none⟩ 8 8 (arr 8 ρ).toList rfl (by simp [arr]) HN.out (fun u hu => Array.all_eq_true_iff_forall_mem.1 (arr_one 8 ρ) u (by simpa using hu)) (by omega) ?_; intro w2 hown2 hg2)
      rw [HL.out] at hown2
      refine ⟨⟨k + 1, by omega, by go_num, rfl, hown2, c0.grew hg2 (by simp), hb.grown hg2 hb.size (fun j hj => by cases hj; omega)⟩, ?_⟩
      simp [intOf]; omega
    · obtain rfl : k = 8 := by omega
      go_wp2
      go_ret
      exact ⟨⟨_, rfl, hown⟩, hb⟩
end Go.Proofs.YtlejfkjanllgbaaGreatDoor

namespace Go.Proofs.YtlejfkjanllgbaaGreatDoor
open Go.RowKit
set_option linter.unusedVariables false

/-- The first k numbers are laid. -/
def upTo8 (xs : List Int) (k i : Nat) : Int := if i < k then xs.getD i 0 else 0

set_option maxHeartbeats 1600000 in
theorem eightOf_no (a : Option Addr) (cap : Nat) (xs : List Int) (M : Int) (w : World) (h : Ints w a xs) (hl : xs.length ≤ maxLen) (m0 : 0 ≤ M) (m1 : M ≤ 100000000) (hno : (decide (xs.length = 64) && inB M xs) = false) :
    Calls Tryz.prog 90 #[.slice a xs.length cap, .int .i64 M] w fun e w' => (∃ F, e = .returned (.tuple #[.agg (arr 64 F), .bool false])) ∧ Below w.heap.size w w' := by
  have HA : Hid (∀ w', Below w.heap.size w w' → Calls Tryz.prog 38 #[.slice a xs.length cap, .int .i64 M] w' (fun e w'' => e = .returned (.bool (inB M xs)) ∧ Below w'.heap.size w' w'')) := fun w' hb => implAll a cap xs M w' (h.below hb (Nat.le_refl _)) hl m0 m1
  unfold maxLen at hl
  clear h
  by_cases hn : xs.length = 64
  · have hin : inB M xs = false := by simpa [hn] using hno
    rw [hin] at HA
    clear hin hno
    have hnI : (xs.length : Int) = 64 := by omega
    go_enter Tryz.func90, Tryz.ntmps90
    rw [hn]
    rw [hn] at HA
    clear hn hnI hl
    go_wp2_with (first
      | (go_at_call 38; generalize hV : World.alloc (World.alloc w _) _ = V; have B0 : Blk V w.heap.size (arr 64 (fun _ => 0)) 125 := (by rw [← hV]; exact (Blk.new w _ _).alloc _); have B1 : Blk V (w.heap.size + 1) (arr 64 (fun _ => 0)) 125 := (by rw [← hV]; exact Blk.new' _ _ (by simp)); have hb : Below w.heap.size w V := (by rw [← hV]; exact ((Below.refl _ _).alloc (Nat.le_refl _) _).alloc (by simp) _); clear hV; refine (HA.out V hb).mono ?_; rintro e w1 ⟨rfl, hc⟩; have b0 := B0.below hc B0.lt; have b1 := B1.below hc B1.lt; have hb1 := hb.trans (hc.mono hb.size); clear B0 B1 hb hc)
      | ((with_reducible refine at_load ?_); refine load_arr rfl _ _ rfl (w.heap.size + 1) 0 rfl 64 (fun _ => 0) (range_all b1) Tryz.underlying125 rfl size55 ?_; simp only [Act.put, List.setIfInBounds_toArray, List.set_cons_zero, List.set_cons_succ])
      | ((with_reducible refine at_store ?_); refine store_arr rfl _ _ _ rfl w.heap.size 0 rfl 64 (fun _ => 0) rfl (there_of_arr b0 0 64 (by omega)) size55 ?_; have HZ : Hid (Blk (w1.setCells w.heap.size 0 (arr 64 (fun _ => 0)).toList) w.heap.size (arr 64 (fun _ => 0)) 125) := (arr_store (k := fun _ => 0) b0 0 64 (by omega) (fun i hi => rfl) (fun i hi h => by omega)); have hbb := below_setCells (g := w.heap.size) (by omega) (arr 64 (fun _ => 0)).toList 0 w1 hb1; generalize World.setCells w1 w.heap.size 0 (arr 64 (fun _ => 0)).toList = Z at *))
    refine bodyPost_ret (results_cell_and rfl _ _ w.heap.size 125 _ (0, 0) _ rfl HZ.out Tryz.underlying125 rfl (by rw [arr_size]; exact size55)) rfl ?_
    exact ⟨⟨_, rfl⟩, hbb⟩
  · have hq : ((xs.length : Int) == 64) = false := by rw [beq_eq_false_iff_ne]; omega
    have hq' : (xs.length == 64) = false := by rw [beq_eq_false_iff_ne]; exact hn
    have hn' : ¬ (xs.length : Int) = 64 := by omega
    clear HA hno
    go_enter Tryz.func90, Tryz.ntmps90
    go_wp2_with (first
      | ((with_reducible refine at_load ?_); generalize hV : World.alloc (World.alloc w _) _ = V; have b0 : Blk V w.heap.size (arr 64 (fun _ => 0)) 125 := (by rw [← hV]; exact (Blk.new w _ _).alloc _); have b1 : Blk V (w.heap.size + 1) (arr 64 (fun _ => 0)) 125 := (by rw [← hV]; exact Blk.new' _ _ (by simp)); have hb1 : Below w.heap.size w V := (by rw [← hV]; exact ((Below.refl _ _).alloc (Nat.le_refl _) _).alloc (by simp) _); clear hV; refine load_arr rfl _ _ rfl (w.heap.size + 1) 0 rfl 64 (fun _ => 0) (range_all b1) Tryz.underlying125 rfl size55 ?_; simp only [Act.put, List.setIfInBounds_toArray, List.set_cons_zero, List.set_cons_succ])
      | ((with_reducible refine at_store ?_); refine store_arr rfl _ _ _ rfl w.heap.size 0 rfl 64 (fun _ => 0) rfl (there_of_arr b0 0 64 (by omega)) size55 ?_; have HZ : Hid (Blk (V.setCells w.heap.size 0 (arr 64 (fun _ => 0)).toList) w.heap.size (arr 64 (fun _ => 0)) 125) := (arr_store (k := fun _ => 0) b0 0 64 (by omega) (fun i hi => rfl) (fun i hi h => by omega)); have hbb := below_setCells (g := w.heap.size) (by omega) (arr 64 (fun _ => 0)).toList 0 V hb1; generalize World.setCells V w.heap.size 0 (arr 64 (fun _ => 0)).toList = Z at *))
    refine bodyPost_ret (results_cell_and rfl _ _ w.heap.size 125 _ (0, 0) _ rfl HZ.out Tryz.underlying125 rfl (by rw [arr_size]; exact size55)) rfl ?_
    exact ⟨⟨_, rfl⟩, hbb⟩

theorem slice_eight' (W : World) (g o : Nat) :
    (Instr.sliceAt 123 (.pointer (some ⟨g, o, none⟩)) none none none).run Tryz.prog W = .ok (.slice (some ⟨g, o, none⟩) 8 8) W := by
  have ha : Tryz.prog.arrayLen 123 = 8 := by kernel_rfl
  have he : Tryz.prog.elem 123 = 3 := by kernel_rfl
  rw [run_sliceAt_array_all W 123 ⟨g, o, none⟩ (by rw [ha, he]; exact Tryz.underlying123), he, ha, Tryz.sizeOf3]
  simp [Result.andThen, slicedAt, Addr.add]
set_option maxHeartbeats 3200000 in
theorem eightOf_yes (a : Option Addr) (cap : Nat) (xs : List Int) (M : Int) (w : World) (h : Ints w a xs) (hl : xs.length ≤ maxLen) (m0 : 0 ≤ M) (m1 : M ≤ 100000000) (hn : xs.length = 64) (hin : inB M xs = true) (hcap : 64 ≤ cap) :
    Calls Tryz.prog 90 #[.slice a xs.length cap, .int .i64 M] w fun e w' => e = .returned (.tuple #[.agg (arr 64 (fun i => xs.getD i 0)), .bool true]) ∧ Below w.heap.size w w' := by
  have HA : Hid (∀ w', Below w.heap.size w w' → Calls Tryz.prog 38 #[.slice a xs.length cap, .int .i64 M] w' (fun e w'' => e = .returned (.bool (inB M xs)) ∧ Below w'.heap.size w' w'')) := fun w' hb => implAll a cap xs M w' (h.below hb (Nat.le_refl _)) hl m0 m1
  obtain ⟨b, off, ha, HI⟩ : ∃ b off : Nat, a = some ⟨b, off, none⟩ ∧ Hid (∀ w', Below w.heap.size w w' → b < w.heap.size ∧ ∀ k, k < 64 → w'.cell? ⟨b, off + k, none⟩ = some (.int .i64 (xs.getD k 0))) := by
    rcases h with h0 | ⟨b, off, ha, hb, hc⟩
    · rw [h0] at hn; simp at hn
    · exact ⟨b, off, ha, fun w' hw => ⟨hb, fun k hk => (hw.cell (p := ⟨b, off + k, none⟩) hb).trans (hc k (by omega))⟩⟩
  rw [hin, hn] at HA
  rw [hn]
  subst ha
  clear h hl hin
  have hc64 : (64 : Int) ≤ (cap : Int) := by omega
  go_enter Tryz.func90, Tryz.ntmps90
  clear hn
  go_wp2_with (go_at_call 38; generalize hV : World.alloc (World.alloc w _) _ = V; have B0 : Blk V w.heap.size (arr 64 (fun _ => 0)) 125 := (by rw [← hV]; exact (Blk.new w _ _).alloc _); have B1 : Blk V (w.heap.size + 1) (arr 64 (fun _ => 0)) 125 := (by rw [← hV]; exact Blk.new' _ _ (by simp)); have hb : Below w.heap.size w V := (by rw [← hV]; exact ((Below.refl _ _).alloc (Nat.le_refl _) _).alloc (by simp) _); clear hV; refine (HA.out V hb).mono ?_; rintro e w1 ⟨rfl, hc⟩; have b0 := B0.below hc B0.lt; have b1 := B1.below hc B1.lt; have hb1 := hb.trans (hc.mono hb.size); clear B0 B1 hb hc)
  clear HA
  generalize hs : w.heap.size = s at *
  have hsl := slice_eight'
  go_loopw [18] (fun i wr => ∃ k : Nat, k ≤ 8 ∧ i = .int .i64 (k : Int) ∧ Blk wr s (arr 64 (fun _ => 0)) 125 ∧ Blk wr (s + 1) (arr 64 (upTo8 xs (k * 8))) 125 ∧ Below s w wr) (fun i _ => 8 - (intOf i).toNat)
  case atStart => exact ⟨0, by omega, rfl, b0, by rw [show arr 64 (upTo8 xs (0 * 8)) = arr 64 (fun _ => 0) from arr_congr fun i hi => if_neg (by omega)]; exact b1, hb1⟩
  case round =>
    obtain ⟨k, hk, rfl, c0, c1, hb⟩ := hrel
    clear b0 b1 hb1
    by_cases hlt : k < 8
    · have l0 : (0 : Int) ≤ (k : Int) := by omega
      have l1 : (k : Int) < 8 := by omega
      obtain ⟨hbs, hcl⟩ := HI.out wr hb
      have hcp : ∀ ty, (Builtin.copy_ #[24, 24] ty #[.slice (some ⟨s + 1, k * 8, none⟩) 8 8, .slice (some ⟨b, off + k * 8, none⟩) (64 - k * 8) (cap - k * 8)]).run Tryz.prog wr.drew = .ok (.int .i64 8) (wr.drew.setCells (s + 1) (k * 8) (arr 8 (fun i => xs.getD (k * 8 + i) 0)).toList) := fun ty => by
        have hth := there_of_arr c1 (k * 8) 8 (by omega)
        have := run_copy_cells (P := Tryz.prog) wr.drew 24 24 ty 3 (s + 1) (k * 8) 8 8 ⟨b, off + k * 8, none⟩ (64 - k * 8) (cap - k * 8) (arr 8 (fun i => xs.getD (k * 8 + i) 0)).toList Tryz.underlying24 (by kernel_rfl) (by rw [Array.length_toList, arr_size]; show 8 = min (64 - k * 8) 8; omega)
          (fun j v hv => by
            rw [Addr.add_mid, Nat.add_assoc]
            have hj : j < 8 := by
              have := (List.getElem?_eq_some_iff.1 hv).1
              simpa [arr] using this
            have e := hcl (k * 8 + j) (by omega)
            rw [Array.getElem?_toList, arr_get _ hj] at hv
            show wr.cell? _ = _
            rw [e, ← hv])
          (fun j hj => (hth j (by rw [Array.length_toList, arr_size] at hj; exact hj)).1) (fun j hj => (hth j (by rw [Array.length_toList, arr_size] at hj; exact hj)).2) (fun v hv => Array.all_eq_true_iff_forall_mem.1 (arr_one 8 _) v (by simpa using hv))
        rw [Array.length_toList, arr_size] at this
        exact this
      have z1 : Hid (Blk (wr.drew.setCells (s + 1) (k * 8) (arr 8 (fun i => xs.getD (k * 8 + i) 0)).toList) (s + 1) (arr 64 (upTo8 xs ((k + 1) * 8))) 125) := arr_store (w := wr.drew) c1 (k * 8) 8 (by omega) (fun i hi => by unfold upTo8; rw [if_pos (by omega)]) (fun i hi ho => by
        unfold upTo8
        by_cases c : i < k * 8
        · rw [if_pos (by omega), if_pos c]
        · rw [if_neg (by omega), if_neg c])
      have z0 : Hid (Blk (wr.drew.setCells (s + 1) (k * 8) (arr 8 (fun i => xs.getD (k * 8 + i) 0)).toList) s (arr 64 (fun _ => 0)) 125) := Blk.others (by omega) _ _ (w := wr.drew) c0
      have zb : Hid (Below s w (wr.drew.setCells (s + 1) (k * 8) (arr 8 (fun i => xs.getD (k * 8 + i) 0)).toList)) := below_setCells (by omega) _ _ _ hb.drew
      generalize (arr 8 (fun i => xs.getD (k * 8 + i) 0)).toList = L at *
      clear c0 c1 hcl
      go_wp2_with fail
      go_region
      clear hcp hsl
      generalize World.setCells wr.drew (s + 1) (k * 8) L = Z at *
      go_wp2
      refine ⟨⟨k + 1, by omega, by go_num, z0, z1, zb⟩, ?_⟩
      simp [intOf]; omega
    · obtain rfl : k = 8 := by omega
      rw [show arr 64 (upTo8 xs (8 * 8)) = arr 64 (fun i => xs.getD i 0) from arr_congr fun i hi => if_pos hi] at c1
      obtain ⟨ρ, hρ⟩ : ∃ ρ : Nat → Int, (fun i => xs.getD i 0) = ρ := ⟨_, rfl⟩
      have HR : Hid ((fun i => xs.getD i 0) = ρ) := hρ
      rw [hρ] at c1
      clear hρ hlt hk HI
      go_wp2_with (first
        | ((with_reducible refine at_load ?_); refine load_arr rfl _ _ rfl (s + 1) 0 rfl 64 ρ (range_all c1) Tryz.underlying125 rfl size55 ?_; simp only [Act.put, List.setIfInBounds_toArray, List.set_cons_zero, List.set_cons_succ])
        | ((with_reducible refine at_store ?_); refine store_arr rfl _ _ _ rfl s 0 rfl 64 ρ rfl (there_of_arr c0 0 64 (by omega)) size55 ?_; have HZ : Hid (Blk (wr.setCells s 0 (arr 64 ρ).toList) s (arr 64 ρ) 125) := (arr_store (k := ρ) c0 0 64 (by omega) (fun i hi => by rw [Nat.zero_add]) (fun i hi h => by omega)); have hbb := below_setCells (g := s) (by omega) (arr 64 ρ).toList 0 wr hb; generalize World.setCells wr s 0 (arr 64 ρ).toList = Z at *))
      refine bodyPost_ret (results_cell_and rfl _ _ s 125 _ (0, 0) _ rfl HZ.out Tryz.underlying125 rfl (by rw [arr_size]; exact size55)) rfl ?_
      exact ⟨by rw [HR.out]; rfl, by rw [hs]; exact hbb⟩
end Go.Proofs.YtlejfkjanllgbaaGreatDoor

namespace Go.Proofs.YtlejfkjanllgbaaGreatDoor
open Go.RowKit
set_option linter.unusedVariables false

/-- The sums of rows, row by row. -/
def halfF (f : Nat → Int) (i : Nat) : Int := dot (i % 8) (fun p => f (i / 8 * 8 + p))
theorem halfF_at (f : Nat → Int) (r v : Nat) (hv : v < 8) : halfF f (r * 8 + v) = dot v (fun p => f (r * 8 + p)) := by
  unfold halfF
  rw [show (r * 8 + v) % 8 = v by omega, show (r * 8 + v) / 8 = r by omega]
theorem halfF_bd {M : Int} {f : Nat → Int} (h : ∀ i, i < 64 → -M ≤ f i ∧ f i ≤ M) : ∀ i, i < 64 → -(8 * M) ≤ halfF f i ∧ halfF f i ≤ 8 * M := fun i hi =>
  dot_bd _ (fun p hp => h _ (by omega))
theorem eightF_half (f : Nat → Int) (u v : Nat) (hu : u < 8) (hv : v < 8) : eightF f (u * 8 + v) = dot u (fun i => halfF f (i * 8 + v)) := by
  rw [eightF_at f u v hu hv]
  exact dot_congr fun p hp => (halfF_at f p v hv).symm
theorem listF_snoc (n : Nat) (f : Nat → Int) : (listF n f).map (Value.int .i64) ++ [.int .i64 (f n)] = (listF (n + 1) f).map (Value.int .i64) := by
  unfold listF
  rw [List.range_succ, List.map_append, List.map_append]
  rfl

end Go.Proofs.YtlejfkjanllgbaaGreatDoor

namespace Go.Proofs.YtlejfkjanllgbaaGreatDoor
open Go.RowKit
set_option linter.unusedVariables false

/-- Turns of eight of a list of numbers; nothing of any other list. -/
def eightL (xs : List Int) : List Int := if (decide (xs.length = 64) && inB 1000 xs) = true then listF 64 (eightF (fun i => xs.getD i 0)) else []
def back8L (xs : List Int) : List Int := if (decide (xs.length = 64) && inB 10000000 xs) = true then listF 64 (fun i => (eightF (fun i => xs.getD i 0) i + 32) / 64) else []
theorem eightL_le (xs : List Int) : (eightL xs).length ≤ 64 := by
  unfold eightL
  split
  · rw [listF_length]; omega
  · simp
theorem back8L_le (xs : List Int) : (back8L xs).length ≤ 64 := by
  unfold back8L
  split
  · rw [listF_length]; omega
  · simp
theorem wi_of {M : Int} {n : Nat} {xs : List Int} (hl : xs.length = n) (h : inB M xs = true) : Wi M n (fun i => xs.getD i 0) := fun i hi => inB_iff.1 h i (by omega)
set_option maxHeartbeats 400000 in
theorem down8_any (n : Int) (w : World) (h0 : -10000000000 ≤ n) (h1 : n ≤ 10000000000) : Calls Tryz.prog 89 #[.int .i64 n] w fun e w' => e = .returned (.int .i64 ((n + 32) / 64)) ∧ w' = w := by
  go_enter Tryz.func89, Tryz.ntmps89
  go_wp2
  go_ret
  exact ⟨by simp, rfl⟩

set_option maxHeartbeats 1600000 in
theorem implEight (a : Option Addr) (cap : Nat) (xs : List Int) (w : World) (h : Ints w a xs) (hl : xs.length ≤ maxLen) (hcap : xs.length ≤ cap) :
    Calls Tryz.prog 62 #[.slice a xs.length cap] w fun e w' => (∃ v, e = .returned v ∧ w'.ownsRow w.heap.size 3 1 v (eightL xs).length ((eightL xs).map (Value.int .i64))) ∧ Below w.heap.size w w' := by
  cases hb : (decide (xs.length = 64) && inB 1000 xs) with
  | true =>
    obtain ⟨hn, hin⟩ : xs.length = 64 ∧ inB 1000 xs = true := by simpa using hb
    have HL : Hid (eightL xs = listF 64 (eightF (fun i => xs.getD i 0))) := by unfold eightL; exact if_pos hb
    have hI := wi_of hn hin
    have HC := eightOf_yes a cap xs 1000 w h hl (by omega) (by omega) hn hin (by omega)
    rw [hn] at HC ⊢
    obtain ⟨ρ, hρ⟩ : ∃ ρ : Nat → Int, (fun i => xs.getD i 0) = ρ := ⟨_, rfl⟩
    rw [hρ] at HL HC hI
    have HC' : Hid (Calls Tryz.prog 90 #[.slice a 64 cap, .int .i64 1000] w _) := HC
    have HT : Hid (∀ w', Calls Tryz.prog 91 #[.agg (arr 64 ρ)] w' (fun e w'' => e = .returned (.agg (arr 64 (eightF ρ))) ∧ Below w'.heap.size w' w'')) := fun w' => eightTurned ρ w' (fun i hi => by have := hI i hi; omega)
    clear hb hn hin h hl HC hρ hcap
    go_enter Tryz.func62, Tryz.ntmps62
    go_wp2_with (first
      | (go_at_call 90; refine HC'.out.mono ?_; rintro e w1 ⟨rfl, hc1⟩)
      | ((with_reducible refine at_store ?_); generalize hV : World.alloc w1 _ = V; have b0 : Blk V w1.heap.size (arr 64 (fun _ => 0)) 125 := (by rw [← hV]; exact Blk.new w1 _ _); have hb := (show Below w.heap.size w V by rw [← hV]; exact hc1.alloc hc1.size _); clear hV; refine store_arr rfl _ _ _ rfl w1.heap.size 0 rfl 64 ρ rfl (there_of_arr b0 0 64 (by omega)) size55 ?_; have b2 : Blk (V.setCells w1.heap.size 0 (arr 64 ρ).toList) w1.heap.size (arr 64 ρ) 125 := (arr_store (k := ρ) b0 0 64 (by omega) (fun i hi => by rw [Nat.zero_add]) (fun i hi h => by omega)); have hb2 := below_setCells (g := w1.heap.size) hc1.size (arr 64 ρ).toList 0 V hb; clear b0 hb; generalize World.setCells V w1.heap.size 0 (arr 64 ρ).toList = Z at *)
      | ((with_reducible refine at_load ?_); refine load_arr rfl _ _ rfl w1.heap.size 0 rfl 64 ρ (range_all b2) Tryz.underlying125 rfl size55 ?_; simp only [Act.put, List.setIfInBounds_toArray, List.set_cons_zero, List.set_cons_succ])
      | (go_at_call 91; refine (HT.out _).mono ?_; rintro e w2 ⟨rfl, hc2⟩)
      | (go_at_call 92; refine (eightList _ _).mono ?_; rintro e w3 ⟨⟨v, rfl, hv⟩, hc3⟩))
    go_ret
    rw [HL.out, listF_length]
    have h2 := hb2.trans (hc2.mono hb2.size)
    exact ⟨⟨_, rfl, own_mono hv h2.size⟩, h2.trans (hc3.mono h2.size)⟩
  | false =>
    have HL : Hid (eightL xs = []) := by unfold eightL; exact if_neg (by rw [hb]; decide)
    have HC' : Hid (Calls Tryz.prog 90 #[.slice a xs.length cap, .int .i64 1000] w _) := eightOf_no a cap xs 1000 w h hl (by omega) (by omega) hb
    clear hb h hl
    go_enter Tryz.func62, Tryz.ntmps62
    go_wp2_with (first
      | (go_at_call 90; refine HC'.out.mono ?_; rintro e w1 ⟨⟨ρ, rfl⟩, hc1⟩)
      | ((with_reducible refine at_store ?_); generalize hV : World.alloc w1 _ = V; have b0 : Blk V w1.heap.size (arr 64 (fun _ => 0)) 125 := (by rw [← hV]; exact Blk.new w1 _ _); have hb := (show Below w.heap.size w V by rw [← hV]; exact hc1.alloc hc1.size _); clear hV; refine store_arr rfl _ _ _ rfl w1.heap.size 0 rfl 64 ρ rfl (there_of_arr b0 0 64 (by omega)) size55 ?_; have b2 : Blk (V.setCells w1.heap.size 0 (arr 64 ρ).toList) w1.heap.size (arr 64 ρ) 125 := (arr_store (k := ρ) b0 0 64 (by omega) (fun i hi => by rw [Nat.zero_add]) (fun i hi h => by omega)); have hb2 := below_setCells (g := w1.heap.size) hc1.size (arr 64 ρ).toList 0 V hb; clear b0 hb; generalize World.setCells V w1.heap.size 0 (arr 64 ρ).toList = Z at *))
    go_ret
    rw [HL.out]
    exact ⟨⟨_, rfl, own_none Z hb2.size⟩, hb2.alloc hb2.size _⟩

set_option maxHeartbeats 1600000 in
theorem implEightBack (a : Option Addr) (cap : Nat) (xs : List Int) (w : World) (h : Ints w a xs) (hl : xs.length ≤ maxLen) (hcap : xs.length ≤ cap) :
    Calls Tryz.prog 65 #[.slice a xs.length cap] w fun e w' => (∃ v, e = .returned v ∧ w'.ownsRow w.heap.size 3 1 v (back8L xs).length ((back8L xs).map (Value.int .i64))) ∧ Below w.heap.size w w' := by
  cases hb : (decide (xs.length = 64) && inB 10000000 xs) with
  | true =>
    obtain ⟨hn, hin⟩ : xs.length = 64 ∧ inB 10000000 xs = true := by simpa using hb
    have HL : Hid (back8L xs = listF 64 (fun i => (eightF (fun i => xs.getD i 0) i + 32) / 64)) := by unfold back8L; exact if_pos hb
    have hI := wi_of hn hin
    have HC := eightOf_yes a cap xs 10000000 w h hl (by omega) (by omega) hn hin (by omega)
    rw [hn] at HC ⊢
    obtain ⟨ρ, hρ⟩ : ∃ ρ : Nat → Int, (fun i => xs.getD i 0) = ρ := ⟨_, rfl⟩
    rw [hρ] at HL HC hI
    have HC' : Hid (Calls Tryz.prog 90 #[.slice a 64 cap, .int .i64 10000000] w _) := HC
    have HT : Hid (∀ w', Calls Tryz.prog 91 #[.agg (arr 64 ρ)] w' (fun e w'' => e = .returned (.agg (arr 64 (eightF ρ))) ∧ Below w'.heap.size w' w'')) := fun w' => eightTurned ρ w' (fun i hi => by have := hI i hi; omega)
    clear hb hn hin h hl HC hρ hcap
    go_enter Tryz.func65, Tryz.ntmps65
    go_wp2_with (first
      | (go_at_call 90; refine HC'.out.mono ?_; rintro e w1 ⟨rfl, hc1⟩)
      | ((with_reducible refine at_store ?_); generalize hV : World.alloc w1 _ = V; have b0 : Blk V w1.heap.size (arr 64 (fun _ => 0)) 125 := (by rw [← hV]; exact Blk.new w1 _ _); have hb := (show Below w.heap.size w V by rw [← hV]; exact hc1.alloc hc1.size _); clear hV; refine store_arr rfl _ _ _ rfl w1.heap.size 0 rfl 64 ρ rfl (there_of_arr b0 0 64 (by omega)) size55 ?_; have b2 : Blk (V.setCells w1.heap.size 0 (arr 64 ρ).toList) w1.heap.size (arr 64 ρ) 125 := (arr_store (k := ρ) b0 0 64 (by omega) (fun i hi => by rw [Nat.zero_add]) (fun i hi h => by omega)); have hb2 := below_setCells (g := w1.heap.size) hc1.size (arr 64 ρ).toList 0 V hb; clear b0 hb; generalize World.setCells V w1.heap.size 0 (arr 64 ρ).toList = Z at *)
      | ((with_reducible refine at_load ?_); refine load_arr rfl _ _ rfl w1.heap.size 0 rfl 64 ρ (range_all b2) Tryz.underlying125 rfl size55 ?_; simp only [Act.put, List.setIfInBounds_toArray, List.set_cons_zero, List.set_cons_succ])
      | (go_at_call 91; refine (HT.out _).mono ?_; rintro e w2 ⟨rfl, hc2⟩)
      | (go_at_call 92; refine (eightList _ _).mono ?_; rintro e w3 ⟨⟨v, rfl, hv⟩, hc3⟩; obtain ⟨gv, cv, rfl, hbv, hlv⟩ := hv.form (by omega)))
    have h2 := hb2.trans (hc2.mono hb2.size)
    have h3 := h2.trans (hc3.mono h2.size)
    have hv2 := own_mono hv h2.size
    clear hv hbv hlv hc2 hc3 b2 HT
    have HG : Hid (Wi 1000000000 64 (eightF ρ)) := fun i hi => by have := crossF_bd (crossF_bd hI) i hi; show -1000000000 ≤ crossF (crossF ρ) i ∧ crossF (crossF ρ) i ≤ 1000000000; omega
    have hv3 := hv2
    rw [← downTo_none (eightF ρ) 64] at hv3
    clear hv2
    generalize eightF ρ = q at *
    generalize hs : w.heap.size = s at *
    go_loopw [18] (fun i wr => ∃ k : Nat, k ≤ 64 ∧ i = .int .i64 (k : Int) ∧ wr.ownsRow s 3 1 (.slice (some ⟨gv, 0, none⟩) 64 cv) 64 ((listF 64 (downTo q k)).map (Value.int .i64)) ∧ Below s w wr) (fun i _ => 64 - (intOf i).toNat)
    case atStart => exact ⟨0, by omega, rfl, hv3, h3⟩
    case round =>
      obtain ⟨k, hk, rfl, hown, hb⟩ := hrel
      clear hv3 h3
      by_cases hlt : k < 64
      · have l0 : (0 : Int) ≤ (k : Int) := by omega
        have l1 : (k : Int) < 64 := by omega
        have hcc := hown.cellAt k (by omega)
        rw [map_at _ hlt, downTo_at] at hcc
        have hfz := hown.frozenAt k
        have hst := hown.stored k (.int .i64 ((q k + 32) / 64))
        have hgs : s ≤ gv := own_base hown gv rfl
        have hbs := hb.grown hst.2 (by rw [← hs]; exact hb.size) (fun j hj => by cases hj; exact hgs)
        have hos := hst.1
        rw [downTo_set] at hos
        obtain ⟨y0, y1⟩ := HG.out k hlt
        generalize q k = x at *
        clear hst hown
        go_wp2_with (go_at_call 89; refine (down8_any _ _ (by omega) (by omega)).mono ?_; rintro e w5 ⟨rfl, hw⟩; subst w5)
        refine ⟨⟨k + 1, by omega, by go_num, hos, hbs⟩, ?_⟩
        simp [intOf]; omega
      · obtain rfl : k = 64 := by omega
        rw [downTo_full] at hown
        go_wp2
        go_ret
        rw [HL.out, listF_length]
        exact ⟨⟨_, rfl, by rw [hs]; exact hown⟩, by rw [hs]; exact hb⟩
  | false =>
    have HL : Hid (back8L xs = []) := by unfold back8L; exact if_neg (by rw [hb]; decide)
    have HC' : Hid (Calls Tryz.prog 90 #[.slice a xs.length cap, .int .i64 10000000] w _) := eightOf_no a cap xs 10000000 w h hl (by omega) (by omega) hb
    clear hb h hl
    go_enter Tryz.func65, Tryz.ntmps65
    go_wp2_with (first
      | (go_at_call 90; refine HC'.out.mono ?_; rintro e w1 ⟨⟨ρ, rfl⟩, hc1⟩)
      | ((with_reducible refine at_store ?_); generalize hV : World.alloc w1 _ = V; have b0 : Blk V w1.heap.size (arr 64 (fun _ => 0)) 125 := (by rw [← hV]; exact Blk.new w1 _ _); have hb := (show Below w.heap.size w V by rw [← hV]; exact hc1.alloc hc1.size _); clear hV; refine store_arr rfl _ _ _ rfl w1.heap.size 0 rfl 64 ρ rfl (there_of_arr b0 0 64 (by omega)) size55 ?_; have b2 : Blk (V.setCells w1.heap.size 0 (arr 64 ρ).toList) w1.heap.size (arr 64 ρ) 125 := (arr_store (k := ρ) b0 0 64 (by omega) (fun i hi => by rw [Nat.zero_add]) (fun i hi h => by omega)); have hb2 := below_setCells (g := w1.heap.size) hc1.size (arr 64 ρ).toList 0 V hb; clear b0 hb; generalize World.setCells V w1.heap.size 0 (arr 64 ρ).toList = Z at *))
    go_ret
    rw [HL.out]
    exact ⟨⟨_, rfl, own_none Z hb2.size⟩, hb2.alloc hb2.size _⟩

end Go.Proofs.YtlejfkjanllgbaaGreatDoor
