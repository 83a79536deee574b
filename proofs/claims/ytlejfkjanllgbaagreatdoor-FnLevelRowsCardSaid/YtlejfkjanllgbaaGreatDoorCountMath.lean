/-
  Plain facts on counted numbers: how many figures a number has, the row of a counted number, and the first sign 1 behind a place.
-/
import Derived.Test.YtlejfkjanllgbaaGreatDoorNumKit
import Derived.Lib.BitFns
import Derived.Lib.IndexLaws
import Derived.Lib.IndexBytes
namespace Go.Proofs.YtlejfkjanllgbaaGreatDoor
open Go.RowKit
set_option linter.unusedVariables false
set_option maxRecDepth 20000

/-- How many figures a number has. -/
def wid (u : Int) : Nat := Lib.bitLen u.toNat
theorem bitLen_pow : ∀ (m : Nat), 0 < m → m < 2 ^ 64 → 1 ≤ Lib.bitLen m ∧ 2 ^ (Lib.bitLen m - 1) ≤ m ∧ m < 2 ^ Lib.bitLen m := by
  intro m
  induction m using Nat.strongRecOn with
  | _ m ih =>
    intro h0 h1
    have e := Lib.bitLen_half m (by omega) h1
    by_cases h : m = 1
    · subst h
      rw [e]
      simp [Lib.bitLen, Lib.bitLenAux]
    · have := ih (m / 2) (by omega) (by omega) (by omega)
      obtain ⟨b, hb⟩ : ∃ b, Lib.bitLen (m / 2) = b + 1 := ⟨Lib.bitLen (m / 2) - 1, by omega⟩
      rw [e, hb]
      rw [hb] at this
      rw [show 1 + (b + 1) - 1 = b + 1 by omega, show 1 + (b + 1) = b + 1 + 1 by omega, Nat.pow_succ 2 (b + 1)]
      rw [show b + 1 - 1 = b by omega] at this
      rw [Nat.pow_succ] at this ⊢
      omega
theorem wid_pow (u : Int) (h0 : 0 < u) (h1 : u ≤ 1000001) : 1 ≤ wid u ∧ wid u ≤ 20 ∧ (2 : Int) ^ (wid u - 1) ≤ u ∧ u < 2 ^ wid u := by
  have h := bitLen_pow u.toNat (by omega) (by omega)
  unfold wid
  refine ⟨h.1, Lib.bitLen_le _ 20 (by decide) (by omega), ?_, ?_⟩
  · have := Int.ofNat_le.2 h.2.1
    rw [Int.natCast_pow] at this
    have e : ((u.toNat : Nat) : Int) = u := Int.toNat_of_nonneg (by omega)
    rw [e] at this
    exact this
  · have := Int.ofNat_lt.2 h.2.2
    rw [Int.natCast_pow] at this
    have e : ((u.toNat : Nat) : Int) = u := Int.toNat_of_nonneg (by omega)
    rw [e] at this
    exact this
theorem pow_le {a b : Nat} (h : a ≤ b) : (2 : Int) ^ a ≤ 2 ^ b := by
  have := Nat.pow_le_pow_right (n := 2) (by decide) h
  have e : ((2 ^ a : Nat) : Int) ≤ ((2 ^ b : Nat) : Int) := Int.ofNat_le.2 this
  simpa using e
theorem wid_mono (u v : Int) (h0 : 0 < u) (h : u ≤ v) (h1 : v ≤ 1000001) : wid u ≤ wid v := by
  have a := wid_pow u h0 (by omega)
  have b := wid_pow v (by omega) h1
  by_cases c : wid u ≤ wid v
  · exact c
  · have := pow_le (a := wid v) (b := wid u - 1) (by omega)
    omega
/-- The halvings: u over 2 ^ j is 0 exactly from the number of its figures on. -/
theorem half_wid (u : Int) (j : Nat) (h0 : 0 < u) (h1 : u ≤ 1000001) : (0 < u / 2 ^ j ↔ j < wid u) := by
  have a := wid_pow u h0 h1
  have hp : (0 : Int) < 2 ^ j := Int.pow_pos (by decide)
  constructor
  · intro h
    by_cases c : j < wid u
    · exact c
    · have := pow_le (a := wid u) (b := j) (by omega)
      rw [Int.ediv_eq_zero_of_lt (by omega) (by omega)] at h
      omega
  · intro h
    have := pow_le (a := j) (b := wid u - 1) (by omega)
    have := (Int.le_ediv_iff_mul_le hp (a := 1) (b := u)).2 (by omega)
    omega
theorem fixL_succ (n : Int) (j : Nat) : fixL n (j + 1) = (48 + n / 2 ^ j % 2) :: fixL n j := by
  unfold fixL
  rw [List.range_succ_eq_map, List.map_cons, List.map_map]
  congr 1
  apply List.map_congr_left
  intro i hi
  simp only [Function.comp, fixAt]
  rw [show j + 1 - 1 - (i + 1) = j - 1 - i by omega]

/-- The row of the counted number n. -/
def ueL (n : Int) : List Int := List.replicate (wid (n + 1) - 1) 48 ++ fixL (n + 1) (wid (n + 1))
def ueS (n : Int) : ByteArray := strOfNums (ueL n)
theorem zeros_signs (k : Nat) : Signs (List.replicate k 48) := fun x hx => .inl (List.eq_of_mem_replicate hx)
theorem ueL_signs (n : Int) : Signs (ueL n) := (zeros_signs _).append (fixL_signs _ _)
theorem ueS_nums (n : Int) : nums (ueS n) = ueL n := nums_of _ (ueL_signs n).bd
theorem ueS_size (n : Int) (h0 : 0 ≤ n) (h1 : n ≤ 1000000) : (ueS n).size = 2 * wid (n + 1) - 1 := by
  have := wid_pow (n + 1) (by omega) (by omega)
  rw [← nums_length, ueS_nums]
  unfold ueL
  rw [List.length_append, List.length_replicate, fixL_length]
  omega
theorem ueS_join (n : Int) : strOfNums (List.replicate (wid (n + 1) - 1) 48) ++ strOfNums (fixL (n + 1) (wid (n + 1))) = ueS n := by
  apply nums_inj
  rw [nums_append, nums_of _ (zeros_signs _).bd, nums_of _ (fixL_signs _ _).bd, ueS_nums]
  rfl

/-- The first sign 1 at and behind a stands z places behind it. -/
structure First (s : ByteArray) (a z : Nat) : Prop where
  lt : a + z < s.size
  one : bAt s (a + z) = 49
  zero : ∀ j, j < z → bAt s (a + j) = 48
theorem First.uniq {s : ByteArray} {a y z : Nat} (h : First s a y) (g : First s a z) : y = z := by
  rcases Nat.lt_trichotomy y z with c | c | c
  · have := g.zero y c; have := h.one; omega
  · exact c
  · have := h.zero z c; have := g.one; omega
/-- The counted number that stands at a: how far the first 1 is, and the figures from it on. -/
structure Counted (s : ByteArray) (a z : Nat) (n : Int) : Prop where
  first : First s a z
  z20 : z ≤ 20
  fits : a + z + (z + 1) ≤ s.size
  num : readN s (a + z) (z + 1) = n + 1
  top : n ≤ 1000000
theorem Counted.uniq {s : ByteArray} {a y z : Nat} {n m : Int} (h : Counted s a y n) (g : Counted s a z m) : y = z ∧ n = m := by
  have e := h.first.uniq g.first
  subst e
  have := h.num; have := g.num
  exact ⟨rfl, by omega⟩
theorem readN_first (s : ByteArray) (a : Nat) (h : bAt s a = 49) : ∀ k, a + (k + 1) ≤ s.size → rowB s = true → (2 : Int) ^ k ≤ readN s a (k + 1)
  | 0, _, _ => by simp [readN, h]
  | k + 1, hk, hr => by
    have ih := readN_first s a h k (by omega) hr
    have hb := rowB_bit s hr (a + (k + 1)) (by omega)
    unfold bitAt at hb
    rw [readN, Int.pow_succ]
    omega
theorem readN_zero (s : ByteArray) (a : Nat) (h : bAt s a = 48) : ∀ k, a + (k + 1) ≤ s.size → rowB s = true → readN s a (k + 1) < 2 ^ k
  | 0, _, _ => by simp [readN, h]
  | k + 1, hk, hr => by
    have ih := readN_zero s a h k (by omega) hr
    have hb := rowB_bit s hr (a + (k + 1)) (by omega)
    unfold bitAt at hb
    rw [readN, Int.pow_succ]
    omega
theorem bAt_mid (p t q : ByteArray) (i : Nat) (hi : i < t.size) : bAt (p ++ t ++ q) (p.size + i) = (nums t).getD i 0 := by
  rw [bAt_nums, nums_append, nums_append]
  simp only [List.getD_eq_getElem?_getD]
  rw [List.getElem?_append_left (by rw [List.length_append, nums_length, nums_length]; omega), List.getElem?_append_right (by rw [nums_length]; omega), nums_length]
  congr 2
  omega
/-- What was put stands there. -/
theorem counted_put (p q : ByteArray) (n : Int) (h0 : 0 ≤ n) (h1 : n ≤ 1000000) : Counted (p ++ ueS n ++ q) p.size (wid (n + 1) - 1) n := by
  obtain ⟨w1, w20, wl, wu⟩ := wid_pow (n + 1) (by omega) (by omega)
  have hs := ueS_size n h0 h1
  have hsz : (p ++ ueS n ++ q).size = p.size + (ueS n).size + q.size := by simp [ByteArray.size_append]
  have hlo : ∀ j, j < wid (n + 1) - 1 → bAt (p ++ ueS n ++ q) (p.size + j) = 48 := by
    intro j hj
    rw [bAt_mid p (ueS n) q j (by omega), ueS_nums]
    unfold ueL
    simp only [List.getD_eq_getElem?_getD]
    rw [List.getElem?_append_left (by rw [List.length_replicate]; exact hj), List.getElem?_replicate, if_pos hj]
    rfl
  have hhi : ∀ i, i < wid (n + 1) → bAt (p ++ ueS n ++ q) (p.size + (wid (n + 1) - 1) + i) = 48 + fixAt (n + 1) (wid (n + 1)) i := by
    intro i hi
    rw [Nat.add_assoc, bAt_mid p (ueS n) q _ (by omega), ueS_nums, ← fixL_get (n + 1) (wid (n + 1)) i hi]
    unfold ueL
    simp only [List.getD_eq_getElem?_getD]
    rw [List.getElem?_append_right (by rw [List.length_replicate]; omega), List.length_replicate]
    congr 2
    omega
  have hrd : readN (p ++ ueS n ++ q) (p.size + (wid (n + 1) - 1)) (wid (n + 1) - 1 + 1) = n + 1 := by
    rw [show wid (n + 1) - 1 + 1 = wid (n + 1) by omega]
    exact readN_fix _ _ _ _ (by omega) wu hhi
  have hone : bAt (p ++ ueS n ++ q) (p.size + (wid (n + 1) - 1)) = 49 := by
    have := hhi 0 (by omega)
    rw [Nat.add_zero] at this
    rw [this]
    unfold fixAt
    rw [Nat.sub_zero]
    have hp : (0 : Int) < 2 ^ (wid (n + 1) - 1) := Int.pow_pos (by decide)
    have e1 : (n + 1) / 2 ^ (wid (n + 1) - 1) = 1 := by
      have a1 := (Int.le_ediv_iff_mul_le hp (a := 1) (b := n + 1)).2 (by omega)
      have a2 := (Int.ediv_lt_iff_lt_mul hp (a := n + 1) (b := 2)).2 (by
        have e : (2 : Int) ^ wid (n + 1) = 2 * 2 ^ (wid (n + 1) - 1) := by
          conv => lhs; rw [show wid (n + 1) = (wid (n + 1) - 1) + 1 by omega, Int.pow_succ]
          omega
        omega)
      omega
    rw [e1]; rfl
  exact ⟨⟨by omega, hone, hlo⟩, by omega, by omega, hrd, h1⟩

/-- What strings.IndexByte tells of the rest of a row. -/
theorem index_first (s : ByteArray) (a z : Nat) (h : rowB s = true) (e : Lib.indexByte (s.extract a s.size).data.toList 49 = (z : Int)) : First s a z := by
  obtain ⟨h1, h2⟩ := Lib.indexByte_some e
  rw [Lib.extract_to_end] at h1 h2
  rw [List.getElem?_drop] at h1
  have hlt : a + z < s.size := by
    have := (List.getElem?_eq_some_iff.1 h1).1
    exact this
  refine ⟨hlt, ?_, fun j hj => ?_⟩
  · unfold bAt; rw [List.getD_eq_getElem?_getD, h1]; rfl
  · have h3 := h2 j hj
    rw [List.getElem?_drop] at h3
    have hb := rowB_bit s h (a + j) (by omega)
    unfold bitAt at hb
    rcases hb with hb | hb
    · exact hb
    · exfalso
      apply h3
      have hl : a + j < s.data.toList.length := Nat.lt_trans (by omega) hlt
      unfold bAt at hb
      rw [List.getD_eq_getElem?_getD, List.getElem?_eq_getElem hl] at hb
      rw [List.getElem?_eq_getElem hl]
      simp only [Option.getD_some] at hb
      congr 1
      apply UInt8.toNat_inj.1
      have e49 : (49 : UInt8).toNat = 49 := rfl
      omega
theorem index_none (s : ByteArray) (a : Nat) (h : rowB s = true) (e : Lib.indexByte (s.extract a s.size).data.toList 49 = -1) : ∀ z, ¬ First s a z := by
  intro z hf
  have h1 := Lib.indexByte_none e z
  rw [Lib.extract_to_end, List.getElem?_drop] at h1
  apply h1
  have hl : a + z < s.data.toList.length := hf.lt
  have hb := hf.one
  unfold bAt at hb
  rw [List.getD_eq_getElem?_getD, List.getElem?_eq_getElem hl] at hb
  rw [List.getElem?_eq_getElem hl]
  simp only [Option.getD_some] at hb
  congr 1
  apply UInt8.toNat_inj.1
  have e49 : (49 : UInt8).toNat = 49 := rfl
  omega
end Go.Proofs.YtlejfkjanllgbaaGreatDoor
