/-
  What is left over, large: what comes back of levels is near what was, by half a step at most.
-/
import Derived.Test.YtlejfkjanllgbaaDoorEightMath
import Derived.Test.YtlejfkjanllgbaaDoorStepMath
namespace Go.Proofs.YtlejfkjanllgbaaDoor
set_option linter.unusedVariables false
set_option maxRecDepth 20000

theorem dot_add (u : Nat) (r s : Nat → Int) : dot u (fun p => r p + s p) = dot u r + dot u s := by
  unfold dot
  rw [← sumTo_add]
  exact sumTo_congr fun p hp => Int.mul_add _ _ _
theorem crossF_add (f g : Nat → Int) : crossF (fun i => f i + g i) = fun i => crossF f i + crossF g i := funext fun i => by
  unfold crossF
  exact dot_add _ _ _
theorem eightF_add (f g : Nat → Int) : eightF (fun i => f i + g i) = fun i => eightF f i + eightF g i := by
  unfold eightF
  rw [crossF_add f g, crossF_add]
theorem eightF_bd {M : Int} {f : Nat → Int} (h : ∀ i, i < 64 → -M ≤ f i ∧ f i ≤ M) : ∀ i, i < 64 → -(64 * M) ≤ eightF f i ∧ eightF f i ≤ 64 * M := fun i hi => by
  have := crossF_bd (crossF_bd h) i hi
  show -(64 * M) ≤ crossF (crossF f) i ∧ crossF (crossF f) i ≤ 64 * M
  omega
/-- What comes back of sums that are off by K at most is off by K at most. -/
theorem eight_near {f e : Nat → Int} {K : Int} (he : ∀ i, i < 64 → -K ≤ e i ∧ e i ≤ K) : ∀ i, i < 64 → -K ≤ (eightF (fun j => eightF f j + e j) i + 32) / 64 - f i ∧ (eightF (fun j => eightF f j + e j) i + 32) / 64 - f i ≤ K := fun i hi => by
  rw [eightF_add]
  have h1 := eight_eight f i hi
  have h2 := eightF_bd he i hi
  show -K ≤ (eightF (eightF f) i + eightF e i + 32) / 64 - f i ∧ (eightF (eightF f) i + eightF e i + 32) / 64 - f i ≤ K
  rw [h1]
  omega
theorem quo_near {a s : Int} (ha : 0 ≤ a) (hs : 1 ≤ s) : 0 ≤ (a + s / 2) / s ∧ (a + s / 2) / s * s - a ≤ s / 2 ∧ a - (a + s / 2) / s * s ≤ s / 2 := by
  have h0 : 0 ≤ (a + s / 2) / s := Int.ediv_nonneg (by omega) (by omega)
  have h1 := Int.mul_ediv_add_emod (a + s / 2) s
  have h2 := Int.emod_nonneg (a + s / 2) (show s ≠ 0 by omega)
  have h3 := Int.emod_lt_of_pos (a + s / 2) (show 0 < s by omega)
  rw [Int.mul_comm] at h1
  refine ⟨h0, by omega, by omega⟩
/-- What comes back of a large level is near the number: by half a step at most. -/
theorem large_near {w qp : Int} (hw : -16320 ≤ w ∧ w ≤ 16320) (hq : 0 ≤ qp ∧ qp ≤ 40) : (-5000 ≤ largeF w qp ∧ largeF w qp ≤ 5000) ∧ -(stepF qp / 2) ≤ largeB (largeF w qp) qp - w ∧ largeB (largeF w qp) qp - w ≤ stepF qp / 2 := by
  have hs := stepF_in qp hq
  have hF : largeF w qp = sgnF w ((absF w + stepF qp / 2) / stepF qp) := by unfold largeF; rw [if_pos ⟨by omega, hq⟩]
  have hB : ∀ x, -5000 ≤ x ∧ x ≤ 5000 → largeB x qp = x * stepF qp := fun x hx => by unfold largeB; rw [if_pos hx]
  rw [hF]
  clear hF
  generalize stepF qp = s at *
  have ha : 0 ≤ absF w ∧ absF w ≤ 16320 := by unfold absF; split <;> omega
  obtain ⟨l0, l1, l2⟩ := quo_near ha.1 (show 1 ≤ s by omega)
  generalize (absF w + s / 2) / s = l at *
  have l3 : l ≤ 5000 := by
    have h10 : l * 10 ≤ l * s := Int.mul_le_mul_of_nonneg_left hs.1 l0
    omega
  by_cases h0 : w < 0
  · have e1 : sgnF w l = -l := by unfold sgnF; rw [if_pos h0]
    have e2 : absF w = -w := by unfold absF; rw [if_pos h0]
    rw [e2] at l1 l2
    rw [e1, hB _ (by omega), Int.neg_mul]
    omega
  · have e1 : sgnF w l = l := by unfold sgnF; rw [if_neg h0]
    have e2 : absF w = w := by unfold absF; rw [if_neg h0]
    rw [e2] at l1 l2
    rw [e1, hB _ (by omega)]
    omega
/-- Of 64 numbers of -255 .. 255: levels, and what comes back of them. -/
theorem left_near {f : Nat → Int} {qp : Int} (hf : ∀ i, i < 64 → -255 ≤ f i ∧ f i ≤ 255) (hq : 0 ≤ qp ∧ qp ≤ 40) :
    (∀ i, i < 64 → -5000 ≤ largeF (eightF f i) qp ∧ largeF (eightF f i) qp ≤ 5000) ∧
    ∀ i, i < 64 → -(stepF qp / 2) ≤ (eightF (fun j => largeB (largeF (eightF f j) qp) qp) i + 32) / 64 - f i ∧ (eightF (fun j => largeB (largeF (eightF f j) qp) qp) i + 32) / 64 - f i ≤ stepF qp / 2 := by
  have hb := fun i hi => eightF_bd (M := 255) hf i hi
  refine ⟨fun i hi => (large_near (by have := hb i hi; omega) hq).1, fun i hi => ?_⟩
  have := eight_near (f := f) (e := fun j => largeB (largeF (eightF f j) qp) qp - eightF f j) (K := stepF qp / 2) (fun j hj => (large_near (by have := hb j hj; omega) hq).2) i hi
  rwa [show (fun j => eightF f j + (largeB (largeF (eightF f j) qp) qp - eightF f j)) = fun j => largeB (largeF (eightF f j) qp) qp from funext fun j => by omega] at this
end Go.Proofs.YtlejfkjanllgbaaDoor
