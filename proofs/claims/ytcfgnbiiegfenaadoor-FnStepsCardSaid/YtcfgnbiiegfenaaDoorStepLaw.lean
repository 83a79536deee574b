/-
  What the two laws over drawn numbers say of steps, as facts of numbers.
-/
import Derived.Test.YtcfgnbiiegfenaaDoorStepMath
namespace Go.Proofs.YtcfgnbiiegfenaaDoor

theorem twoQ_six (qp : Int) (h : 0 ≤ qp) : twoQ (qp + 6) = 2 * twoQ qp := by
  unfold twoQ
  have e : ((qp + 6) / 6).toNat = (qp / 6).toNat + 1 := by omega
  rw [e, Int.pow_succ, Int.mul_comm]
theorem atT_six (l : List Int) (qp k : Int) : atT l (qp + 6) k = atT l qp k := by
  unfold atT
  have e : (qp + 6) % 6 = qp % 6 := by omega
  rw [e]
theorem stepF_six (qp : Int) (h : 0 ≤ qp ∧ qp ≤ 34) : stepF (qp + 6) = 2 * stepF qp := by
  unfold stepF
  rw [if_pos (by omega), if_pos (by omega), twoQ_six qp h.1, atT_six, Int.mul_left_comm]
theorem scaleF_six (qp p : Int) (h : 0 ≤ qp ∧ qp ≤ 34) (hp : 0 ≤ p ∧ p ≤ 15) : scaleF (qp + 6) p = 2 * scaleF qp p := by
  rw [scaleF_pos _ _ (by omega) hp, scaleF_pos _ _ (by omega) hp, twoQ_six qp h.1, atT_six, Int.mul_left_comm]
theorem shareF_six (qp p : Int) (h : 0 ≤ qp ∧ qp ≤ 34) (hp : 0 ≤ p ∧ p ≤ 15) : shareF (qp + 6) p = shareF qp p := by
  rw [shareF_pos _ _ (by omega) hp, shareF_pos _ _ (by omega) hp, atT_six]
theorem sgnF_zero (w : Int) : sgnF w 0 = 0 := by unfold sgnF; split <;> rfl
theorem absF_neg (w : Int) : absF (-w) = absF w := by unfold absF; split <;> split <;> omega
theorem sgnF_neg (w n : Int) (h : w = 0 → n = 0) : sgnF (-w) n = -sgnF w n := by
  unfold sgnF
  by_cases h0 : w = 0
  · rw [h h0]; split <;> split <;> rfl
  · split <;> split <;> omega
theorem half_zero (m : Int) (h : 2 ≤ m) : (0 + m / 2) / m = 0 := Int.ediv_eq_zero_of_lt (by omega) (by omega)
theorem third_zero (s m : Int) (h : 2 ≤ m) : (0 * s + m / 3) / m = 0 := by rw [Int.zero_mul]; exact Int.ediv_eq_zero_of_lt (by omega) (by omega)
theorem largeF_pos (w qp : Int) (hw : -20000 ≤ w ∧ w ≤ 20000) (h : 0 ≤ qp ∧ qp ≤ 40) : largeF w qp = sgnF w ((absF w + stepF qp / 2) / stepF qp) := by unfold largeF; rw [if_pos ⟨hw, h⟩]
theorem smallF_pos (w qp p : Int) (hw : -20000 ≤ w ∧ w ≤ 20000) (h : 0 ≤ qp ∧ qp ≤ 40) (hp : 0 ≤ p ∧ p ≤ 15) : smallF w qp p = sgnF w ((absF w * shareF qp p + 32768 * twoQ qp / 3) / (32768 * twoQ qp)) := by unfold smallF; rw [if_pos ⟨hw, h, hp⟩]
theorem largeF_neg (w qp : Int) (hw : -20000 ≤ w ∧ w ≤ 20000) (h : 0 ≤ qp ∧ qp ≤ 40) : largeF (-w) qp = -largeF w qp := by
  have := stepF_in qp h
  rw [largeF_pos _ _ (by omega) h, largeF_pos _ _ hw h, absF_neg, sgnF_neg]
  rintro rfl
  exact half_zero _ (by omega)
theorem smallF_neg (w qp p : Int) (hw : -20000 ≤ w ∧ w ≤ 20000) (h : 0 ≤ qp ∧ qp ≤ 40) (hp : 0 ≤ p ∧ p ≤ 15) : smallF (-w) qp p = -smallF w qp p := by
  have := twoQ_in qp h
  rw [smallF_pos _ _ _ (by omega) h hp, smallF_pos _ _ _ hw h hp, absF_neg, sgnF_neg]
  rintro rfl
  exact third_zero _ _ (by omega)
theorem smallF_zero (qp p : Int) (h : 0 ≤ qp ∧ qp ≤ 40) (hp : 0 ≤ p ∧ p ≤ 15) : smallF 0 qp p = 0 := by
  have := smallF_neg 0 qp p (by omega) h hp
  rw [Int.neg_zero] at this
  omega
theorem smallF_nonneg (w qp p : Int) (h0 : 0 ≤ w) (hw : w ≤ 20000) (h : 0 ≤ qp ∧ qp ≤ 40) (hp : 0 ≤ p ∧ p ≤ 15) : 0 ≤ smallF w qp p := by
  have a := twoQ_in qp h
  have b := shareF_in qp p h hp
  have c := mul_in (A := 20000) (B := 13107) h0 hw (show 0 ≤ shareF qp p by omega) b.2
  rw [smallF_pos _ _ _ (by omega) h hp]
  unfold sgnF absF
  rw [if_neg (by omega), if_neg (by omega)]
  exact Int.ediv_nonneg (by omega) (by omega)
/-- A number that is rounded to a whole of steps is off by half a step at most. -/
theorem half_off (y m : Int) (hm : 2 ≤ m) : -m ≤ 2 * ((y + m / 2) / m * m - y) ∧ 2 * ((y + m / 2) / m * m - y) ≤ m := by
  have a : m * ((y + m / 2) / m) + (y + m / 2) % m = y + m / 2 := by first | exact Int.mul_ediv_add_emod _ _ | exact Int.ediv_add_emod' _ _
  have b := Int.emod_nonneg (y + m / 2) (show m ≠ 0 by omega)
  have c := Int.emod_lt_of_pos (y + m / 2) (show 0 < m by omega)
  rw [Int.mul_comm m] at a
  omega
theorem large_le (y m : Int) (hy : 0 ≤ y) (hy2 : y ≤ 20000) (hm : 10 ≤ m) : 0 ≤ (y + m / 2) / m ∧ (y + m / 2) / m ≤ 5000 := by
  refine ⟨Int.ediv_nonneg (by omega) (by omega), ?_⟩
  have a := Int.ediv_le_ediv (show (0 : Int) < m by omega) (show y + m / 2 ≤ 5000 * m by omega)
  rw [Int.mul_ediv_cancel _ (by omega)] at a
  exact a
theorem largeF_in (w qp : Int) (hw : -20000 ≤ w ∧ w ≤ 20000) (h : 0 ≤ qp ∧ qp ≤ 40) : -5000 ≤ largeF w qp ∧ largeF w qp ≤ 5000 := by
  have a := stepF_in qp h
  have b := absF_in w hw
  have c := large_le (absF w) (stepF qp) b.1 b.2 a.1
  rw [largeF_pos _ _ hw h]
  generalize (absF w + stepF qp / 2) / stepF qp = n at *
  unfold sgnF
  split <;> omega
/-- What comes back of a large level is off by half a step at most. -/
theorem large_off (w qp : Int) (hw : -20000 ≤ w ∧ w ≤ 20000) (h : 0 ≤ qp ∧ qp ≤ 40) : -stepF qp ≤ 2 * (largeB (largeF w qp) qp - w) ∧ 2 * (largeB (largeF w qp) qp - w) ≤ stepF qp := by
  have a := stepF_in qp h
  have b := absF_in w hw
  have c := half_off (absF w) (stepF qp) (by omega)
  have d := largeF_in w qp hw h
  unfold largeB
  rw [if_pos d, largeF_pos _ _ hw h]
  generalize stepF qp = m at *
  have e : absF w = w ∨ absF w = -w := by unfold absF; split <;> omega
  by_cases hn : w < 0
  · have f : absF w = -w := by unfold absF; rw [if_pos hn]
    rw [f] at c ⊢
    unfold sgnF
    rw [if_pos hn, Int.neg_mul]
    omega
  · have f : absF w = w := by unfold absF; rw [if_neg hn]
    rw [f] at c ⊢
    unfold sgnF
    rw [if_neg hn]
    omega
theorem sgnF_of (w n : Int) (h : 0 ≤ w) : sgnF w n = n := by unfold sgnF; rw [if_neg (by omega)]
theorem absF_of (w : Int) (h : 0 ≤ w) : absF w = w := by unfold absF; rw [if_neg (by omega)]
theorem large_more (v w qp : Int) (h0 : 0 ≤ w) (hv : w ≤ v) (h1 : v ≤ 20000) (h : 0 ≤ qp ∧ qp ≤ 40) : largeF w qp ≤ largeF v qp := by
  have a := stepF_in qp h
  rw [largeF_pos _ _ (by omega) h, largeF_pos _ _ (by omega) h, sgnF_of _ _ h0, sgnF_of _ _ (by omega), absF_of _ h0, absF_of _ (by omega)]
  exact Int.ediv_le_ediv (by omega) (by omega)
theorem small_more (v w qp p : Int) (h0 : 0 ≤ w) (hv : w ≤ v) (h1 : v ≤ 20000) (h : 0 ≤ qp ∧ qp ≤ 40) (hp : 0 ≤ p ∧ p ≤ 15) : smallF w qp p ≤ smallF v qp p := by
  have a := twoQ_in qp h
  have b := shareF_in qp p h hp
  rw [smallF_pos _ _ _ (by omega) h hp, smallF_pos _ _ _ (by omega) h hp, sgnF_of _ _ h0, sgnF_of _ _ (by omega), absF_of _ h0, absF_of _ (by omega)]
  have c : w * shareF qp p ≤ v * shareF qp p := Int.mul_le_mul_of_nonneg_right hv (by omega)
  exact Int.ediv_le_ediv (by omega) (by omega)
theorem large_self (v qp : Int) (h0 : 0 ≤ v) (h1 : v ≤ 20000) (h : 0 ≤ qp ∧ qp ≤ 40) : largeF v qp ≤ v := by
  have a := stepF_in qp h
  rw [largeF_pos _ _ (by omega) h, sgnF_of _ _ h0, absF_of _ h0]
  have c : (1 : Int) * v ≤ stepF qp * v := Int.mul_le_mul_of_nonneg_right (by omega) h0
  have b := Int.ediv_le_ediv (show 0 < stepF qp by omega) (show v + stepF qp / 2 ≤ stepF qp - 1 + v * stepF qp by
    rcases Int.lt_or_eq_of_le h0 with hp | rfl
    · rw [Int.mul_comm v]; have d : (10 : Int) * v ≤ stepF qp * v := Int.mul_le_mul_of_nonneg_right a.1 h0
      omega
    · omega)
  rw [Int.add_mul_ediv_right _ _ (by omega), Int.ediv_eq_zero_of_lt (a := stepF qp - 1) (b := stepF qp) (by omega) (by omega)] at b
  omega
theorem large_top (qp : Int) (h : 0 ≤ qp ∧ qp ≤ 40) : 0 < largeF 20000 qp := by
  have a := stepF_in qp h
  rw [largeF_pos _ _ (by omega) h, sgnF_of _ _ (by omega), absF_of _ (by omega)]
  have c := Int.ediv_le_ediv (show 0 < stepF qp by omega) (show 1 * stepF qp ≤ 20000 + stepF qp / 2 by omega)
  rw [Int.mul_ediv_cancel _ (by omega)] at c
  omega
theorem small_top (qp p : Int) (h : 0 ≤ qp ∧ qp ≤ 40) (hp : 0 ≤ p ∧ p ≤ 15) : 0 < smallF 20000 qp p := by
  have a := twoQ_in qp h
  have b := shareF_in qp p h hp
  rw [smallF_pos _ _ _ (by omega) h hp, sgnF_of _ _ (by omega), absF_of _ (by omega)]
  have c := Int.ediv_le_ediv (show 0 < 32768 * twoQ qp by omega) (show 1 * (32768 * twoQ qp) ≤ 20000 * shareF qp p + 32768 * twoQ qp / 3 by omega)
  rw [Int.mul_ediv_cancel _ (by omega)] at c
  omega
end Go.Proofs.YtcfgnbiiegfenaaDoor
