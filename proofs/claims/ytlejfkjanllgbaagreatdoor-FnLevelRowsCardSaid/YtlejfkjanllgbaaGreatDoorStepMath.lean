/-
  Steps as functions of numbers: the tables of chapter 8 flat, the step, the kind, the scale and the share; the levels and what comes back of them.
-/

namespace Go.Proofs.YtlejfkjanllgbaaGreatDoor

def scL : List Int := [10, 16, 13, 11, 18, 14, 13, 20, 16, 14, 23, 18, 16, 25, 20, 18, 29, 23]
def shL : List Int := [13107, 5243, 8066, 11916, 4660, 7490, 10082, 4194, 6554, 9362, 3647, 5825, 8192, 3355, 5243, 7282, 2893, 4559]
def kdL : List Int := [0, 2, 2, 1]
/-- What stands in a table of six rows of three at the rest of qp and a kind. -/
def atT (l : List Int) (qp k : Int) : Int := l.getD (3 * (qp % 6).toNat + k.toNat) 0
def twoQ (qp : Int) : Int := 2 ^ (qp / 6).toNat
def stepF (qp : Int) : Int := if 0 ≤ qp ∧ qp ≤ 40 then atT scL qp 0 * twoQ qp else 0
def kindF (p : Int) : Int := if 0 ≤ p ∧ p ≤ 15 then kdL.getD (2 * (p / 4 % 2).toNat + (p % 4 % 2).toNat) 0 else -1
def scaleF (qp p : Int) : Int := if (0 ≤ qp ∧ qp ≤ 40) ∧ 0 ≤ p ∧ p ≤ 15 then atT scL qp (kindF p) * twoQ qp else 0
def shareF (qp p : Int) : Int := if (0 ≤ qp ∧ qp ≤ 40) ∧ 0 ≤ p ∧ p ≤ 15 then atT shL qp (kindF p) else 0
def absF (w : Int) : Int := if w < 0 then -w else w
def sgnF (w n : Int) : Int := if w < 0 then -n else n
def smallF (w qp p : Int) : Int := if (-20000 ≤ w ∧ w ≤ 20000) ∧ (0 ≤ qp ∧ qp ≤ 40) ∧ 0 ≤ p ∧ p ≤ 15 then sgnF w ((absF w * shareF qp p + 32768 * twoQ qp / 3) / (32768 * twoQ qp)) else 0
def smallB (l qp p : Int) : Int := if -5000 ≤ l ∧ l ≤ 5000 then l * scaleF qp p else 0
def largeF (w qp : Int) : Int := if (-20000 ≤ w ∧ w ≤ 20000) ∧ 0 ≤ qp ∧ qp ≤ 40 then sgnF w ((absF w + stepF qp / 2) / stepF qp) else 0
def largeB (l qp : Int) : Int := if -5000 ≤ l ∧ l ≤ 5000 then l * stepF qp else 0

/-- A qp's rest and quotient, each as a number that is known. -/
theorem qp_parts {qp : Int} (h : 0 ≤ qp ∧ qp ≤ 40) : ∃ r q : Nat, r < 6 ∧ q < 7 ∧ qp % 6 = r ∧ qp / 6 = q := ⟨(qp % 6).toNat, (qp / 6).toNat, by omega, by omega, by omega, by omega⟩
theorem r_cases {r : Nat} (h : r < 6) : r = 0 ∨ r = 1 ∨ r = 2 ∨ r = 3 ∨ r = 4 ∨ r = 5 := by omega
theorem q_cases {q : Nat} (h : q < 7) : q = 0 ∨ q = 1 ∨ q = 2 ∨ q = 3 ∨ q = 4 ∨ q = 5 ∨ q = 6 := by omega
theorem twoQ_in (qp : Int) (h : 0 ≤ qp ∧ qp ≤ 40) : 1 ≤ twoQ qp ∧ twoQ qp ≤ 64 := by
  obtain ⟨r, q, hr, hq, _, e⟩ := qp_parts h
  unfold twoQ
  rw [e]
  rcases q_cases hq with rfl | rfl | rfl | rfl | rfl | rfl | rfl <;> decide
theorem kindF_in (p : Int) (h : 0 ≤ p ∧ p ≤ 15) : 0 ≤ kindF p ∧ kindF p ≤ 2 := by
  have h1 : (p / 4 % 2).toNat = 0 ∨ (p / 4 % 2).toNat = 1 := by omega
  have h2 : (p % 4 % 2).toNat = 0 ∨ (p % 4 % 2).toNat = 1 := by omega
  unfold kindF
  rw [if_pos h]
  rcases h1 with e | e <;> rcases h2 with f | f <;> rw [e, f] <;> decide
theorem kindF_no (p : Int) (h : ¬ (0 ≤ p ∧ p ≤ 15)) : kindF p = -1 := by unfold kindF; rw [if_neg h]
theorem k_cases {k : Int} (h : 0 ≤ k ∧ k ≤ 2) : k = 0 ∨ k = 1 ∨ k = 2 := by omega
theorem atSc_in (qp k : Int) (h : 0 ≤ qp ∧ qp ≤ 40) (hk : 0 ≤ k ∧ k ≤ 2) : 10 ≤ atT scL qp k ∧ atT scL qp k ≤ 29 := by
  obtain ⟨r, q, hr, hq, e, _⟩ := qp_parts h
  unfold atT
  rw [e]
  rcases r_cases hr with rfl | rfl | rfl | rfl | rfl | rfl <;> rcases k_cases hk with rfl | rfl | rfl <;> decide
theorem atSh_in (qp k : Int) (h : 0 ≤ qp ∧ qp ≤ 40) (hk : 0 ≤ k ∧ k ≤ 2) : 2893 ≤ atT shL qp k ∧ atT shL qp k ≤ 13107 := by
  obtain ⟨r, q, hr, hq, e, _⟩ := qp_parts h
  unfold atT
  rw [e]
  rcases r_cases hr with rfl | rfl | rfl | rfl | rfl | rfl <;> rcases k_cases hk with rfl | rfl | rfl <;> decide
theorem mul_in {a b A B : Int} (h0 : 0 ≤ a) (h1 : a ≤ A) (h2 : 0 ≤ b) (h3 : b ≤ B) : 0 ≤ a * b ∧ a * b ≤ A * B :=
  ⟨Int.mul_nonneg h0 h2, Int.mul_le_mul h1 h3 h2 (by omega)⟩
theorem stepF_in (qp : Int) (h : 0 ≤ qp ∧ qp ≤ 40) : 10 ≤ stepF qp ∧ stepF qp ≤ 1856 := by
  have a := atSc_in qp 0 h (by omega)
  have b := twoQ_in qp h
  unfold stepF
  rw [if_pos h]
  have c := mul_in (A := 29) (B := 64) (by omega) a.2 (by omega) b.2
  have d : atT scL qp 0 * 1 ≤ atT scL qp 0 * twoQ qp := Int.mul_le_mul_of_nonneg_left b.1 (by omega)
  omega
theorem scaleF_pos (qp p : Int) (h : 0 ≤ qp ∧ qp ≤ 40) (hp : 0 ≤ p ∧ p ≤ 15) : scaleF qp p = atT scL qp (kindF p) * twoQ qp := by unfold scaleF; rw [if_pos ⟨h, hp⟩]
theorem scaleF_in (qp p : Int) (h : 0 ≤ qp ∧ qp ≤ 40) (hp : 0 ≤ p ∧ p ≤ 15) : 10 ≤ scaleF qp p ∧ scaleF qp p ≤ 1856 := by
  have a := atSc_in qp _ h (kindF_in p hp)
  have b := twoQ_in qp h
  rw [scaleF_pos qp p h hp]
  have c := mul_in (A := 29) (B := 64) (by omega) a.2 (by omega) b.2
  have d : atT scL qp (kindF p) * 1 ≤ atT scL qp (kindF p) * twoQ qp := Int.mul_le_mul_of_nonneg_left b.1 (by omega)
  omega
theorem scaleF_all (qp p : Int) : 0 ≤ scaleF qp p ∧ scaleF qp p ≤ 1856 := by
  by_cases h : (0 ≤ qp ∧ qp ≤ 40) ∧ 0 ≤ p ∧ p ≤ 15
  · have := scaleF_in qp p h.1 h.2; omega
  · unfold scaleF; rw [if_neg h]; omega
theorem stepF_all (qp : Int) : 0 ≤ stepF qp ∧ stepF qp ≤ 1856 := by
  by_cases h : 0 ≤ qp ∧ qp ≤ 40
  · have := stepF_in qp h; omega
  · unfold stepF; rw [if_neg h]; omega
theorem shareF_pos (qp p : Int) (h : 0 ≤ qp ∧ qp ≤ 40) (hp : 0 ≤ p ∧ p ≤ 15) : shareF qp p = atT shL qp (kindF p) := by unfold shareF; rw [if_pos ⟨h, hp⟩]
theorem shareF_in (qp p : Int) (h : 0 ≤ qp ∧ qp ≤ 40) (hp : 0 ≤ p ∧ p ≤ 15) : 2893 ≤ shareF qp p ∧ shareF qp p ≤ 13107 := by
  rw [shareF_pos qp p h hp]; exact atSh_in qp _ h (kindF_in p hp)
theorem absF_in (w : Int) (h : -20000 ≤ w ∧ w ≤ 20000) : 0 ≤ absF w ∧ absF w ≤ 20000 := by unfold absF; split <;> omega
end Go.Proofs.YtlejfkjanllgbaaGreatDoor
