/-
  Plain facts on texts as lists of numbers, and on rows and numbers in rows.
-/
import Derived.Test.YtnlbigjfnjcldaaGreatReadMath
namespace Go.Proofs.YtnlbigjfnjcldaaGreat
open Go.RowKit
set_option linter.unusedVariables false
set_option maxRecDepth 20000

def nums (s : ByteArray) : List Int := s.data.toList.map fun c => (c.toNat : Int)
theorem nums_length (s : ByteArray) : (nums s).length = s.size := by simp [nums]
theorem nums_bd (s : ByteArray) : ∀ x ∈ nums s, 0 ≤ x ∧ x ≤ 255 := by
  intro x hx
  obtain ⟨c, _, rfl⟩ := List.mem_map.1 hx
  have := UInt8.toNat_lt c
  omega
theorem nums_append (s t : ByteArray) : nums (s ++ t) = nums s ++ nums t := by
  unfold nums
  rw [ByteArray.data_append, Array.toList_append, List.map_append]
theorem nums_of (zs : List Int) (h : ∀ x ∈ zs, 0 ≤ x ∧ x ≤ 255) : nums (strOfNums zs) = zs := by
  unfold nums
  rw [strOfNums_data, List.map_map]
  conv => rhs; rw [← List.map_id zs]
  apply List.map_congr_left
  intro x hx
  have := h x hx
  simp only [Function.comp, UInt8.toNat_ofNat', id]
  omega
theorem of_nums (s : ByteArray) : strOfNums (nums s) = s := by
  apply ByteArray.ext
  apply Array.ext'
  rw [strOfNums_data]
  unfold nums
  rw [List.map_map]
  conv => rhs; rw [← List.map_id s.data.toList]
  apply List.map_congr_left
  intro x _
  simp
theorem nums_inj {s t : ByteArray} (h : nums s = nums t) : s = t := by rw [← of_nums s, ← of_nums t, h]
theorem bAt_nums (s : ByteArray) (j : Nat) : bAt s j = (nums s).getD j 0 := by
  unfold bAt nums
  simp only [List.getD_eq_getElem?_getD, List.getElem?_map]
  cases s.data.toList[j]? <;> simp
/-- A list of the signs 0 and 1. -/
abbrev Signs (l : List Int) : Prop := ∀ x ∈ l, x = 48 ∨ x = 49
theorem Signs.bd {l : List Int} (h : Signs l) : ∀ x ∈ l, 0 ≤ x ∧ x ≤ 255 := fun x hx => by have := h x hx; omega
theorem Signs.append {l m : List Int} (h : Signs l) (g : Signs m) : Signs (l ++ m) := fun x hx => by
  rcases List.mem_append.1 hx with h' | h'
  · exact h x h'
  · exact g x h'
theorem rowB_of (s : ByteArray) (h : Signs (nums s)) : rowB s = true := by
  refine rowB_good s fun j hj => ?_
  unfold bitAt
  rw [bAt_nums, List.getD_eq_getElem?_getD, List.getElem?_eq_getElem (by rw [nums_length]; exact hj)]
  exact h _ (List.getElem_mem _)
theorem signs_of (s : ByteArray) (h : rowB s = true) : Signs (nums s) := by
  intro x hx
  obtain ⟨j, hj, rfl⟩ := List.mem_iff_getElem.1 hx
  have := rowB_bit s h j (by rw [nums_length] at hj; exact hj)
  unfold bitAt at this
  rw [bAt_nums, List.getD_eq_getElem?_getD, List.getElem?_eq_getElem hj] at this
  exact this
theorem rowOkB_of (s : ByteArray) (hs : s.size ≤ 400000) (h : Signs (nums s)) : rowOkB s = true := by
  rw [rowOkB_small s hs]; exact rowB_of s h
theorem fixL_signs (n : Int) (w : Nat) : Signs (fixL n w) := by
  intro x hx
  obtain ⟨i, _, rfl⟩ := List.mem_map.1 hx
  have := fixAt_bd n w i
  omega
theorem fixL_get (n : Int) (w i : Nat) (hi : i < w) : (fixL n w).getD i 0 = 48 + fixAt n w i := by
  simp [fixL, List.getD_eq_getElem?_getD, hi]
/-- What stands in a row behind a, in k signs, is the number that was put there. -/
theorem readN_fix (s : ByteArray) (a w : Nat) (n : Int) (h0 : 0 ≤ n) (h1 : n < 2 ^ w) (h : ∀ i, i < w → bAt s (a + i) = 48 + fixAt n w i) : readN s a w = n := by
  have key : ∀ j, j ≤ w → readN s a j = n / 2 ^ (w - j) := by
    intro j
    induction j with
    | zero =>
      intro _
      rw [readN, Nat.sub_zero, Int.ediv_eq_zero_of_lt h0 h1]
    | succ j ih =>
      intro hj
      rw [readN, ih (by omega), h j (by omega)]
      unfold fixAt
      rw [show w - j = (w - (j + 1)) + 1 by omega, show w - 1 - j = w - (j + 1) by omega, ← half_pow]
      omega
  have := key w (Nat.le_refl _)
  simpa using this
theorem readN_put (p q : ByteArray) (w : Nat) (n : Int) (h0 : 0 ≤ n) (h1 : n < 2 ^ w) : readN (p ++ strOfNums (fixL n w) ++ q) p.size w = n := by
  refine readN_fix _ _ _ _ h0 h1 fun i hi => ?_
  rw [bAt_nums, nums_append, nums_append, nums_of _ (fixL_signs n w).bd, ← fixL_get n w i hi]
  simp only [List.getD_eq_getElem?_getD]
  rw [List.getElem?_append_left (by rw [List.length_append, nums_length, fixL_length]; omega), List.getElem?_append_right (by rw [nums_length]; omega), nums_length]
  congr 2
  omega
end Go.Proofs.YtnlbigjfnjcldaaGreat
