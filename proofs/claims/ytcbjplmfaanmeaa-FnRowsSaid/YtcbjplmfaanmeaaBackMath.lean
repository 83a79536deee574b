/-
  Plain facts: a row comes back from its bytes; unlike rows have unlike bytes.
-/
import Derived.Test.YtcbjplmfaanmeaaBytMath
import Derived.Test.YtcbjplmfaanmeaaTxtMath
namespace Go.Proofs.Ytcbjplmfaanmeaa
open Go.RowKit
set_option linter.unusedVariables false

/-- The bytes of a row, as a text. -/
def byT (s : ByteArray) : ByteArray := strOfNums (byL s)
theorem byT_size (s : ByteArray) : (byT s).size = s.size / 8 + 1 := by unfold byT; rw [strOfNums_size, byL_length]
theorem byT_at (s : ByteArray) (h : rowB s = true) (i : Nat) (hi : i < s.size / 8 + 1) : bAt (byT s) i = oct (bitF s) i := by
  have hb : ∀ x ∈ byL s, 0 ≤ x ∧ x ≤ 255 := by
    intro x hx
    obtain ⟨j, _, rfl⟩ := List.mem_map.1 hx
    exact oct_bd (bitF_bits s h) j
  rw [bAt_nums]
  unfold byT
  rw [nums_of _ hb]
  simp [byL, List.getD_eq_getElem?_getD, hi]
theorem tb_byT (s : ByteArray) (h : rowB s = true) (j : Nat) (hj : j / 8 < s.size / 8 + 1) : tb (byT s) j = bitF s j := by
  unfold tb
  rw [byT_at s h _ hj, bit_of _ (bitF_bits s h) (j / 8) (j % 8) (by omega), show 8 * (j / 8) + j % 8 = j by omega]
theorem tzI_is (x : Int) (m : Nat) (h0 : 0 < x) (h1 : x ≤ 255) (h : ∀ i, i < m → x / 2 ^ i % 2 = 0) (hm : x / 2 ^ m % 2 = 1) : tzI x = m := by
  rcases Nat.lt_trichotomy (tzI x) m with c | c | c
  · have a := h _ c
    have b := tzI_one x h0 h1
    omega
  · exact c
  · have a := tzI_zero x (Int.le_of_lt h0) h1 m c
    omega
theorem byT_last (s : ByteArray) (h : rowB s = true) : 0 < bAt (byT s) ((byT s).size - 1) ∧ bAt (byT s) ((byT s).size - 1) ≤ 255 ∧ tzI (bAt (byT s) ((byT s).size - 1)) = 7 - s.size % 8 := by
  have hz := byT_size s
  have e : (byT s).size - 1 = s.size / 8 := by omega
  rw [e]
  have hbits : ∀ i, i ≤ 7 → bAt (byT s) (s.size / 8) / 2 ^ i % 2 = bitF s (8 * (s.size / 8) + (7 - i)) := by
    intro i hi
    have := bit_of _ (bitF_bits s h) (s.size / 8) (7 - i) (by omega)
    rw [byT_at s h _ (by omega), ← this, show 7 - (7 - i) = i by omega]
  have hbd := bAt_bd (byT s) (s.size / 8)
  have hone : bAt (byT s) (s.size / 8) / 2 ^ (7 - s.size % 8) % 2 = 1 := by
    rw [hbits _ (by omega), show 8 * (s.size / 8) + (7 - (7 - s.size % 8)) = s.size by omega, bitF_end]
  have h0 : 0 < bAt (byT s) (s.size / 8) := by
    rcases Int.lt_or_eq_of_le hbd.1 with c | c
    · exact c
    · rw [← c] at hone; simp at hone
  refine ⟨h0, hbd.2, tzI_is _ _ h0 hbd.2 (fun i hi => ?_) hone⟩
  rw [hbits i (by omega), bitF_out _ _ (by omega)]
theorem byT_len (s : ByteArray) (h : rowB s = true) : txtLen (byT s) = s.size := by
  unfold txtLen
  rw [(byT_last s h).2.2, byT_size]
  omega
theorem byT_yes (s : ByteArray) (h : rowB s = true) (h4 : s.size ≤ 400000) : ¬ txtNo (byT s) := by
  have h1 := byT_last s h
  have h2 := byT_len s h
  have h3 := byT_size s
  unfold txtNo
  omega
theorem byT_back (s : ByteArray) (h : rowB s = true) : strOfNums (sgL (byT s) (txtLen (byT s))) = s := by
  apply nums_inj
  rw [nums_of _ (sgL_signs _ _).bd, byT_len s h]
  apply List.ext_getElem
  · rw [sgL_length, nums_length]
  · intro j h1 h2
    have hj : j < s.size := by rw [sgL_length] at h1; exact h1
    simp only [sgL, List.getElem_map, List.getElem_range]
    rw [tb_byT s h j (by omega), bitF_in s j hj, bAt_nums, List.getD_eq_getElem?_getD, List.getElem?_eq_getElem h2]
    simp only [Option.getD_some]
    omega
theorem byT_inj (s t : ByteArray) (hs : rowB s = true) (ht : rowB t = true) (h : byT s = byT t) : s = t := by
  rw [← byT_back s hs, ← byT_back t ht, h]
end Go.Proofs.Ytcbjplmfaanmeaa
