/-
  What is cut out of a picture and put into another one: dot by dot.
-/
import Derived.Test.YtpodpfdbklffgaaPasteMath
namespace Go.Proofs.Ytpodpfdbklffgaa
open Go.RowKit
set_option linter.unusedVariables false
set_option maxRecDepth 20000

theorem bAt_append (x y : ByteArray) (j : Nat) : bAt (x ++ y) j = if j < x.size then bAt x j else bAt y (j - x.size) := by
  rw [bAt_nums, bAt_nums, bAt_nums, nums_append, List.getD_eq_getElem?_getD, List.getD_eq_getElem?_getD, List.getD_eq_getElem?_getD]
  by_cases h : j < x.size
  · rw [if_pos h, List.getElem?_append_left (by rw [nums_length]; exact h)]
  · rw [if_neg h, List.getElem?_append_right (by rw [nums_length]; omega), nums_length]
theorem bAt_ext {x y : ByteArray} (h : x.size = y.size) (hb : ∀ j, j < x.size → bAt x j = bAt y j) : x = y := by
  refine nums_inj (List.ext_getElem (by rw [nums_length, nums_length]; exact h) fun i h1 h2 => ?_)
  rw [nums_length] at h1
  have := hb i h1
  rw [bAt_nums, bAt_nums, List.getD_eq_getElem?_getD, List.getD_eq_getElem?_getD, List.getElem?_eq_getElem (by rw [nums_length]; exact h1), List.getElem?_eq_getElem h2] at this
  exact this

section
variable {W H l t a b : Int} {s u : ByteArray}
/-- A later row begins a picture's width behind an earlier one, or further. -/
theorem rowA_far (hr : inRB W H l t a b = true) (hW : 1 ≤ W) {i k : Nat} (hi : i < k) (hk : (k : Int) < b) : rowA W l t i + a.toNat ≤ rowA W l t k := by
  have hz : W * H = W * H := rfl
  obtain ⟨e1, f1, _⟩ := rowA_in hr (z := W * H) rfl hW (k := i) (by omega)
  obtain ⟨e2, f2, _⟩ := rowA_in hr (z := W * H) rfl hW (k := k) hk
  obtain ⟨⟨h0, h1, h2⟩, h3, h4, h5⟩ := inRB_iff.1 hr
  have g : (t + ((i : Int) + 1)) * W ≤ (t + (k : Int)) * W := Int.mul_le_mul_of_nonneg_right (by omega) (by omega)
  have e3 : (t + ((i : Int) + 1)) * W = (t + (i : Int)) * W + W := by rw [← Int.add_assoc, Int.add_mul, Int.one_mul]
  omega
theorem crop_at (hr : inRB W H l t a b = true) (hz : (u.size : Int) = W * H) (hW : 1 ≤ W) : ∀ K : Nat, (K : Int) ≤ b → ∀ k m : Nat, k < K → m < a.toNat → bAt (cropS W u l t a K) (k * a.toNat + m) = bAt u (rowA W l t k + m)
  | 0, _, k, m, hk, _ => by omega
  | K + 1, hK, k, m, hk, hm => by
    have hs := cropS_size hr hz hW K (by omega)
    obtain ⟨e, _, g⟩ := rowA_in hr hz hW (k := K) (by omega)
    obtain ⟨⟨_, h1, _⟩, _⟩ := inRB_iff.1 hr
    rw [cropS, bAt_append, hs]
    by_cases h : k = K
    · subst h
      rw [if_neg (by omega), show k * a.toNat + m - k * a.toNat = m by omega, bAt_extract u _ _ _ (by omega) hm]
    · have hle : (k + 1) * a.toNat ≤ K * a.toNat := Nat.mul_le_mul_right _ (by omega)
      rw [Nat.add_mul, Nat.one_mul] at hle
      rw [if_pos (by omega)]
      exact crop_at hr hz hW K (by omega) k m (by omega) hm
/-- Where the inner picture's dots are put. -/
theorem paste_in (hr : inRB W H l t a b = true) (hW : 1 ≤ W) (c : ByteArray) : ∀ K : Nat, (K : Int) ≤ b → ∀ i m : Nat, i < K → m < a.toNat → pasteR W l t a s c K (rowA W l t i + m) = bAt c (i * a.toNat + m)
  | 0, _, i, m, hi, _ => by omega
  | K + 1, hK, i, m, hi, hm => by
    unfold pasteR pasteC
    by_cases h : i = K
    · subst h
      rw [if_pos (by omega), show rowA W l t i + m - rowA W l t i = m by omega]
    · have := rowA_far hr hW (i := i) (k := K) (by omega) (by omega)
      rw [if_neg (by omega)]
      exact paste_in hr hW c K (by omega) i m (by omega) hm
/-- Elsewhere all is as it was. -/
theorem paste_out (hr : inRB W H l t a b = true) (hW : 1 ≤ W) (c : ByteArray) {x y : Int} (hx : 0 ≤ x ∧ x < W) (hy : 0 ≤ y) (ho : ¬ ((l ≤ x ∧ x < l + a) ∧ t ≤ y ∧ y < t + b)) : ∀ K : Nat, (K : Int) ≤ b → pasteR W l t a s c K (y * W + x).toNat = bAt s (y * W + x).toNat
  | 0, _ => rfl
  | K + 1, hK => by
    obtain ⟨e, f, _⟩ := rowA_in hr (z := W * H) rfl hW (k := K) (by omega)
    obtain ⟨⟨h0, h1, h2⟩, h3, h4, h5⟩ := inRB_iff.1 hr
    have hyw : 0 ≤ y * W := Int.mul_nonneg hy (by omega)
    unfold pasteR pasteC
    rw [if_neg ?_]
    · exact paste_out hr hW c hx hy ho K (by omega)
    · rintro ⟨q1, q2⟩
      have q1' : (rowA W l t K : Int) ≤ y * W + x := by omega
      have q2' : y * W + x < (rowA W l t K : Int) + a := by omega
      rw [← e] at q1' q2'
      rcases Int.lt_trichotomy y (t + (K : Int)) with g | g | g
      · have g1 : (y + 1) * W ≤ (t + (K : Int)) * W := Int.mul_le_mul_of_nonneg_right (by omega) (by omega)
        rw [Int.add_mul, Int.one_mul] at g1
        omega
      · subst g
        omega
      · have g1 : (t + (K : Int) + 1) * W ≤ y * W := Int.mul_le_mul_of_nonneg_right (by omega) (by omega)
        rw [Int.add_mul (t + (K : Int)), Int.one_mul] at g1
        omega
/-- Each dot is one of the two pictures'. -/
theorem paste_one (hr : inRB W H l t a b = true) (hz : (u.size : Int) = W * H) (hW : 1 ≤ W) (K' : Nat) (hK' : (K' : Int) ≤ b) (j : Nat) : ∀ K : Nat, K ≤ K' → pasteR W l t a s (cropS W u l t a K') K j = bAt s j ∨ pasteR W l t a s (cropS W u l t a K') K j = bAt u j
  | 0, _ => .inl rfl
  | K + 1, hK => by
    unfold pasteR pasteC
    by_cases h : rowA W l t K ≤ j ∧ j < rowA W l t K + a.toNat
    · rw [if_pos h, crop_at hr hz hW K' hK' K (j - rowA W l t K) (by omega) (by omega), show rowA W l t K + (j - rowA W l t K) = j by omega]
      exact .inr rfl
    · rw [if_neg h]
      exact paste_one hr hz hW K' hK' j K (by omega)
theorem paste_size : (pasteS W l t a b s u).size = s.size := by
  unfold pasteS
  rw [strOfNums_size, listF_length]
theorem paste_at (q : ByteArray) {j : Nat} (hj : j < s.size) : bAt (pasteS W l t a b s q) j = pasteR W l t a s q b.toNat j := by
  unfold pasteS
  rw [bAt_nums, nums_of _ (fun x hx => by
    unfold listF at hx
    obtain ⟨i, _, rfl⟩ := List.mem_map.1 hx
    exact pasteR_in W l t a s q b.toNat i)]
  exact listF_get _ hj
/-- What was put in is cut out again. -/
theorem crop_paste (hr : inRB W H l t a b = true) (hs : (s.size : Int) = W * H) (hu : (u.size : Int) = W * H) (hW : 1 ≤ W) :
    cropS W (pasteS W l t a b s (cropS W u l t a b.toNat)) l t a b.toNat = cropS W u l t a b.toNat := by
  obtain ⟨⟨h0, h1, h2⟩, h3, h4, h5⟩ := inRB_iff.1 hr
  have hd : ((pasteS W l t a b s (cropS W u l t a b.toNat)).size : Int) = W * H := by rw [paste_size]; exact hs
  have c1 := cropS_size hr hd hW b.toNat (by omega)
  have c2 := cropS_size hr hu hW b.toNat (by omega)
  refine bAt_ext (by rw [c1, c2]) fun j hj => ?_
  rw [c1] at hj
  have ha : 0 < a.toNat := by omega
  have hi : j / a.toNat < b.toNat := (Nat.div_lt_iff_lt_mul ha).2 hj
  have hm := Nat.mod_lt j ha
  have hjm : j / a.toNat * a.toNat + j % a.toNat = j := by rw [Nat.mul_comm]; exact Nat.div_add_mod _ _
  obtain ⟨e, _, g⟩ := rowA_in hr hs hW (k := j / a.toNat) (by omega)
  rw [← hjm, crop_at hr hd hW b.toNat (by omega) _ _ hi hm, paste_at _ (by omega), paste_in hr hW _ b.toNat (by omega) _ _ hi hm]
/-- The dot at a place within. -/
theorem paste_dot (hr : inRB W H l t a b = true) (hs : (s.size : Int) = W * H) (hu : (u.size : Int) = W * H) (hW : 1 ≤ W) {x y : Int} (hx : 0 ≤ x ∧ x < W) (hy : 0 ≤ y ∧ y < H) :
    bAt (pasteS W l t a b s (cropS W u l t a b.toNat)) (y * W + x).toNat = if ((l ≤ x ∧ x < l + a) ∧ t ≤ y ∧ y < t + b) then bAt u (y * W + x).toNat else bAt s (y * W + x).toNat := by
  obtain ⟨⟨h0, h1, h2⟩, h3, h4, h5⟩ := inRB_iff.1 hr
  have hyw : 0 ≤ y * W := Int.mul_nonneg hy.1 (by omega)
  have hyH : y * W ≤ (H - 1) * W := Int.mul_le_mul_of_nonneg_right (by omega) (by omega)
  rw [Int.sub_mul, Int.one_mul, Int.mul_comm H W] at hyH
  rw [paste_at _ (by omega)]
  by_cases h : (l ≤ x ∧ x < l + a) ∧ t ≤ y ∧ y < t + b
  · rw [if_pos h]
    obtain ⟨e, _, g⟩ := rowA_in hr hs hW (k := (y - t).toNat) (by omega)
    have e2 : (t + ((y - t).toNat : Int)) = y := by omega
    rw [e2] at e
    have e3 : (y * W + x).toNat = rowA W l t (y - t).toNat + (x - l).toNat := by omega
    rw [e3, paste_in hr hW _ b.toNat (by omega) _ _ (by omega) (by omega), crop_at hr hu hW b.toNat (by omega) _ _ (by omega) (by omega)]
  · rw [if_neg h]
    exact paste_out hr hW _ hx hy.1 h b.toNat (by omega)
end
theorem absN_sub (x y : Int) : absN (x - y) = absN (y - x) := by unfold absN; split <;> split <;> omega
theorem apart_comm (s t : ByteArray) : ∀ n, apartN s t n = apartN t s n
  | 0 => rfl
  | n + 1 => by rw [apartN, apartN, apart_comm s t n, absN_sub]
theorem apart_self (s : ByteArray) : ∀ n, apartN s s n = 0
  | 0 => rfl
  | n + 1 => by rw [apartN, apart_self s n, Int.sub_self]; rfl
theorem apart_zero (s t : ByteArray) : ∀ n, apartN s t n = 0 → ∀ j, j < n → bAt s j = bAt t j
  | 0, _, j, hj => by omega
  | n + 1, h, j, hj => by
    have h0 := apartN_in s t n
    rw [apartN] at h
    have h1 : 0 ≤ absN (bAt s n - bAt t n) := by unfold absN; split <;> omega
    rcases Nat.lt_succ_iff_lt_or_eq.1 hj with g | rfl
    · exact apart_zero s t n (by omega) j g
    · have h2 : absN (bAt s j - bAt t j) = 0 := by omega
      unfold absN at h2
      split at h2 <;> omega
theorem apart_le (d s u : ByteArray) : ∀ n, (∀ j, j < n → bAt d j = bAt s j ∨ bAt d j = bAt u j) → apartN d u n ≤ apartN s u n
  | 0, _ => Int.le_refl _
  | n + 1, h => by
    have ih := apart_le d s u n (fun j hj => h j (by omega))
    rw [apartN, apartN]
    have h1 : 0 ≤ absN (bAt s n - bAt u n) := by unfold absN; split <;> omega
    rcases h n (by omega) with g | g
    · rw [g]; omega
    · rw [g, Int.sub_self, show absN 0 = 0 from rfl]; omega
end Go.Proofs.Ytpodpfdbklffgaa
