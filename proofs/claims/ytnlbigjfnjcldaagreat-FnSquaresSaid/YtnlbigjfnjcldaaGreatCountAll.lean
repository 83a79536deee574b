/-
  Plain facts on counted numbers: how many figures a number has, the row of a counted number, and the first sign 1 behind a place.
  The walks of impl's countKind.figures, size and row: the row of a counted number, whatever its kind.
  The walks of spec.l01Long, spec.l03Ue and spec.l03Se: the row of a counted number.
  The walks of UeRow, SeRow, UeSize and SeSize, of impl and of spec.
-/
import Derived.Test.YtnlbigjfnjcldaaGreatNumKit
import Derived.Lib.BitFns
import Derived.Lib.IndexLaws
import Derived.Lib.IndexBytes
import Derived.Test.YtnlbigjfnjcldaaGreatShelf
import Derived.Test.YtnlbigjfnjcldaaGreatRowAll
set_option maxRecDepth 20000
namespace Go.Proofs.YtnlbigjfnjcldaaGreat
open Go.RowKit
set_option linter.unusedVariables false
set_option maxRecDepth 20000

/-- How many figures a number has. -/
def wid (u : Int) : Nat := Lib.bitLen u.toNat
theorem bitLen_pow : ∀ (m : Nat), 0 < m → m < 2 ^ 64 → 1 ≤ Lib.bitLen m ∧ 2 ^ (Lib.bitLen m - 1) ≤ m ∧ m < 2 ^ Lib.bitLen m := by
  intro m
  induction m using Nat.strongRecOn with
  | _ m ih =>
    intro h0 h1
    have e := Lib.bitLen_half m (by omega) h1
    by_cases h : m = 1
    · subst h
      rw [e]
      simp [Lib.bitLen, Lib.bitLenAux]
    · have := ih (m / 2) (by omega) (by omega) (by omega)
      obtain ⟨b, hb⟩ : ∃ b, Lib.bitLen (m / 2) = b + 1 := ⟨Lib.bitLen (m / 2) - 1, by omega⟩
      rw [e, hb]
      rw [hb] at this
      rw [show 1 + (b + 1) - 1 = b + 1 by omega, show 1 + (b + 1) = b + 1 + 1 by omega, Nat.pow_succ 2 (b + 1)]
      rw [show b + 1 - 1 = b by omega] at this
      rw [Nat.pow_succ] at this ⊢
      omega
theorem wid_pow (u : Int) (h0 : 0 < u) (h1 : u ≤ 1000001) : 1 ≤ wid u ∧ wid u ≤ 20 ∧ (2 : Int) ^ (wid u - 1) ≤ u ∧ u < 2 ^ wid u := by
  have h := bitLen_pow u.toNat (by omega) (by omega)
  unfold wid
  refine ⟨h.1, Lib.bitLen_le _ 20 (by decide) (by omega), ?_, ?_⟩
  · have := Int.ofNat_le.2 h.2.1
    rw [Int.natCast_pow] at this
    have e : ((u.toNat : Nat) : Int) = u := Int.toNat_of_nonneg (by omega)
    rw [e] at this
    exact this
  · have := Int.ofNat_lt.2 h.2.2
    rw [Int.natCast_pow] at this
    have e : ((u.toNat : Nat) : Int) = u := Int.toNat_of_nonneg (by omega)
    rw [e] at this
    exact this
theorem pow_le {a b : Nat} (h : a ≤ b) : (2 : Int) ^ a ≤ 2 ^ b := by
  have := Nat.pow_le_pow_right (n := 2) (by decide) h
  have e : ((2 ^ a : Nat) : Int) ≤ ((2 ^ b : Nat) : Int) := Int.ofNat_le.2 this
  simpa using e
theorem wid_mono (u v : Int) (h0 : 0 < u) (h : u ≤ v) (h1 : v ≤ 1000001) : wid u ≤ wid v := by
  have a := wid_pow u h0 (by omega)
  have b := wid_pow v (by omega) h1
  by_cases c : wid u ≤ wid v
  · exact c
  · have := pow_le (a := wid v) (b := wid u - 1) (by omega)
    omega
/-- The halvings: u over 2 ^ j is 0 exactly from the number of its figures on. -/
theorem half_wid (u : Int) (j : Nat) (h0 : 0 < u) (h1 : u ≤ 1000001) : (0 < u / 2 ^ j ↔ j < wid u) := by
  have a := wid_pow u h0 h1
  have hp : (0 : Int) < 2 ^ j := Int.pow_pos (by decide)
  constructor
  · intro h
    by_cases c : j < wid u
    · exact c
    · have := pow_le (a := wid u) (b := j) (by omega)
      rw [Int.ediv_eq_zero_of_lt (by omega) (by omega)] at h
      omega
  · intro h
    have := pow_le (a := j) (b := wid u - 1) (by omega)
    have := (Int.le_ediv_iff_mul_le hp (a := 1) (b := u)).2 (by omega)
    omega
theorem fixL_succ (n : Int) (j : Nat) : fixL n (j + 1) = (48 + n / 2 ^ j % 2) :: fixL n j := by
  unfold fixL
  rw [List.range_succ_eq_map, List.map_cons, List.map_map]
  congr 1
  apply List.map_congr_left
  intro i hi
  simp only [Function.comp, fixAt]
  rw [show j + 1 - 1 - (i + 1) = j - 1 - i by omega]

/-- The row of the counted number n. -/
def ueL (n : Int) : List Int := List.replicate (wid (n + 1) - 1) 48 ++ fixL (n + 1) (wid (n + 1))
def ueS (n : Int) : ByteArray := strOfNums (ueL n)
theorem zeros_signs (k : Nat) : Signs (List.replicate k 48) := fun x hx => .inl (List.eq_of_mem_replicate hx)
theorem ueL_signs (n : Int) : Signs (ueL n) := (zeros_signs _).append (fixL_signs _ _)
theorem ueS_nums (n : Int) : nums (ueS n) = ueL n := nums_of _ (ueL_signs n).bd
theorem ueS_size (n : Int) (h0 : 0 ≤ n) (h1 : n ≤ 1000000) : (ueS n).size = 2 * wid (n + 1) - 1 := by
  have := wid_pow (n + 1) (by omega) (by omega)
  rw [← nums_length, ueS_nums]
  unfold ueL
  rw [List.length_append, List.length_replicate, fixL_length]
  omega
theorem ueS_join (n : Int) : strOfNums (List.replicate (wid (n + 1) - 1) 48) ++ strOfNums (fixL (n + 1) (wid (n + 1))) = ueS n := by
  apply nums_inj
  rw [nums_append, nums_of _ (zeros_signs _).bd, nums_of _ (fixL_signs _ _).bd, ueS_nums]
  rfl

/-- The first sign 1 at and behind a stands z places behind it. -/
structure First (s : ByteArray) (a z : Nat) : Prop where
  lt : a + z < s.size
  one : bAt s (a + z) = 49
  zero : ∀ j, j < z → bAt s (a + j) = 48
theorem First.uniq {s : ByteArray} {a y z : Nat} (h : First s a y) (g : First s a z) : y = z := by
  rcases Nat.lt_trichotomy y z with c | c | c
  · have := g.zero y c; have := h.one; omega
  · exact c
  · have := h.zero z c; have := g.one; omega
/-- The counted number that stands at a: how far the first 1 is, and the figures from it on. -/
structure Counted (s : ByteArray) (a z : Nat) (n : Int) : Prop where
  first : First s a z
  z20 : z ≤ 20
  fits : a + z + (z + 1) ≤ s.size
  num : readN s (a + z) (z + 1) = n + 1
  top : n ≤ 1000000
theorem Counted.uniq {s : ByteArray} {a y z : Nat} {n m : Int} (h : Counted s a y n) (g : Counted s a z m) : y = z ∧ n = m := by
  have e := h.first.uniq g.first
  subst e
  have := h.num; have := g.num
  exact ⟨rfl, by omega⟩
theorem readN_first (s : ByteArray) (a : Nat) (h : bAt s a = 49) : ∀ k, a + (k + 1) ≤ s.size → rowB s = true → (2 : Int) ^ k ≤ readN s a (k + 1)
  | 0, _, _ => by simp [readN, h]
  | k + 1, hk, hr => by
    have ih := readN_first s a h k (by omega) hr
    have hb := rowB_bit s hr (a + (k + 1)) (by omega)
    unfold bitAt at hb
    rw [readN, Int.pow_succ]
    omega
theorem readN_zero (s : ByteArray) (a : Nat) (h : bAt s a = 48) : ∀ k, a + (k + 1) ≤ s.size → rowB s = true → readN s a (k + 1) < 2 ^ k
  | 0, _, _ => by simp [readN, h]
  | k + 1, hk, hr => by
    have ih := readN_zero s a h k (by omega) hr
    have hb := rowB_bit s hr (a + (k + 1)) (by omega)
    unfold bitAt at hb
    rw [readN, Int.pow_succ]
    omega
theorem bAt_mid (p t q : ByteArray) (i : Nat) (hi : i < t.size) : bAt (p ++ t ++ q) (p.size + i) = (nums t).getD i 0 := by
  rw [bAt_nums, nums_append, nums_append]
  simp only [List.getD_eq_getElem?_getD]
  rw [List.getElem?_append_left (by rw [List.length_append, nums_length, nums_length]; omega), List.getElem?_append_right (by rw [nums_length]; omega), nums_length]
  congr 2
  omega
/-- What was put stands there. -/
theorem counted_put (p q : ByteArray) (n : Int) (h0 : 0 ≤ n) (h1 : n ≤ 1000000) : Counted (p ++ ueS n ++ q) p.size (wid (n + 1) - 1) n := by
  obtain ⟨w1, w20, wl, wu⟩ := wid_pow (n + 1) (by omega) (by omega)
  have hs := ueS_size n h0 h1
  have hsz : (p ++ ueS n ++ q).size = p.size + (ueS n).size + q.size := by simp [ByteArray.size_append]
  have hlo : ∀ j, j < wid (n + 1) - 1 → bAt (p ++ ueS n ++ q) (p.size + j) = 48 := by
    intro j hj
    rw [bAt_mid p (ueS n) q j (by omega), ueS_nums]
    unfold ueL
    simp only [List.getD_eq_getElem?_getD]
    rw [List.getElem?_append_left (by rw [List.length_replicate]; exact hj), List.getElem?_replicate, if_pos hj]
    rfl
  have hhi : ∀ i, i < wid (n + 1) → bAt (p ++ ueS n ++ q) (p.size + (wid (n + 1) - 1) + i) = 48 + fixAt (n + 1) (wid (n + 1)) i := by
    intro i hi
    rw [Nat.add_assoc, bAt_mid p (ueS n) q _ (by omega), ueS_nums, ← fixL_get (n + 1) (wid (n + 1)) i hi]
    unfold ueL
    simp only [List.getD_eq_getElem?_getD]
    rw [List.getElem?_append_right (by rw [List.length_replicate]; omega), List.length_replicate]
    congr 2
    omega
  have hrd : readN (p ++ ueS n ++ q) (p.size + (wid (n + 1) - 1)) (wid (n + 1) - 1 + 1) = n + 1 := by
    rw [show wid (n + 1) - 1 + 1 = wid (n + 1) by omega]
    exact readN_fix _ _ _ _ (by omega) wu hhi
  have hone : bAt (p ++ ueS n ++ q) (p.size + (wid (n + 1) - 1)) = 49 := by
    have := hhi 0 (by omega)
    rw [Nat.add_zero] at this
    rw [this]
    unfold fixAt
    rw [Nat.sub_zero]
    have hp : (0 : Int) < 2 ^ (wid (n + 1) - 1) := Int.pow_pos (by decide)
    have e1 : (n + 1) / 2 ^ (wid (n + 1) - 1) = 1 := by
      have a1 := (Int.le_ediv_iff_mul_le hp (a := 1) (b := n + 1)).2 (by omega)
      have a2 := (Int.ediv_lt_iff_lt_mul hp (a := n + 1) (b := 2)).2 (by
        have e : (2 : Int) ^ wid (n + 1) = 2 * 2 ^ (wid (n + 1) - 1) := by
          conv => lhs; rw [show wid (n + 1) = (wid (n + 1) - 1) + 1 by omega, Int.pow_succ]
          omega
        omega)
      omega
    rw [e1]; rfl
  exact ⟨⟨by omega, hone, hlo⟩, by omega, by omega, hrd, h1⟩

/-- What strings.IndexByte tells of the rest of a row. -/
theorem index_first (s : ByteArray) (a z : Nat) (h : rowB s = true) (e : Lib.indexByte (s.extract a s.size).data.toList 49 = (z : Int)) : First s a z := by
  obtain ⟨h1, h2⟩ := Lib.indexByte_some e
  rw [Lib.extract_to_end] at h1 h2
  rw [List.getElem?_drop] at h1
  have hlt : a + z < s.size := by
    have := (List.getElem?_eq_some_iff.1 h1).1
    exact this
  refine ⟨hlt, ?_, fun j hj => ?_⟩
  · unfold bAt; rw [List.getD_eq_getElem?_getD, h1]; rfl
  · have h3 := h2 j hj
    rw [List.getElem?_drop] at h3
    have hb := rowB_bit s h (a + j) (by omega)
    unfold bitAt at hb
    rcases hb with hb | hb
    · exact hb
    · exfalso
      apply h3
      have hl : a + j < s.data.toList.length := Nat.lt_trans (by omega) hlt
      unfold bAt at hb
      rw [List.getD_eq_getElem?_getD, List.getElem?_eq_getElem hl] at hb
      rw [List.getElem?_eq_getElem hl]
      simp only [Option.getD_some] at hb
      congr 1
      apply UInt8.toNat_inj.1
      have e49 : (49 : UInt8).toNat = 49 := rfl
      omega
theorem index_none (s : ByteArray) (a : Nat) (h : rowB s = true) (e : Lib.indexByte (s.extract a s.size).data.toList 49 = -1) : ∀ z, ¬ First s a z := by
  intro z hf
  have h1 := Lib.indexByte_none e z
  rw [Lib.extract_to_end, List.getElem?_drop] at h1
  apply h1
  have hl : a + z < s.data.toList.length := hf.lt
  have hb := hf.one
  unfold bAt at hb
  rw [List.getD_eq_getElem?_getD, List.getElem?_eq_getElem hl] at hb
  rw [List.getElem?_eq_getElem hl]
  simp only [Option.getD_some] at hb
  congr 1
  apply UInt8.toNat_inj.1
  have e49 : (49 : UInt8).toNat = 49 := rfl
  omega
end Go.Proofs.YtnlbigjfnjcldaaGreat

namespace Go.Proofs.YtnlbigjfnjcldaaGreat
open Go.RowKit
set_option linter.unusedVariables false

/-- A kind folds n to u. -/
abbrev Folds (k n u : Int) : Prop := ∀ w : World, Calls Tryz.prog 78 #[.int .i64 k, .int .i64 n] w fun e w' => e = .returned (.tuple #[.int .i64 u, .bool true]) ∧ w' = w
/-- A kind has no row for n. -/
abbrev FoldsNot (k n : Int) : Prop := ∀ w : World, Calls Tryz.prog 78 #[.int .i64 k, .int .i64 n] w fun e w' => e = .returned (.tuple #[.int .i64 0, .bool false]) ∧ w' = w

theorem len_any (u : Int) (w : World) (h0 : 0 ≤ u) (h1 : u ≤ 1000001) :
    Calls Tryz.prog 79 #[.int .u64 u] w fun e w' => e = .returned (.int .i64 (wid u)) ∧ w' = w := Tryz.bits_Len u w h0 (by omega)
theorem repeat_zero (k : Int) (w : World) (h0 : 0 ≤ k) (h1 : k ≤ 100) :
    Calls Tryz.prog 74 #[.string ⟨#[48]⟩, .int .i64 k] w fun e w' => e = .returned (.string (strOfNums (List.replicate k.toNat 48))) ∧ Below w.heap.size w w' := by
  obtain ⟨n, rfl⟩ := Int.eq_ofNat_of_zero_le h0
  have e : ∀ n : Nat, (⟨(Lib.repeatL (⟨#[48]⟩ : ByteArray).data.toList n).toArray⟩ : ByteArray) = strOfNums (List.replicate n 48) := by
    intro n
    apply ByteArray.ext
    apply Array.ext'
    rw [strOfNums_data]
    show Lib.repeatL [48] n = _
    rw [List.map_replicate]
    induction n with
    | zero => rfl
    | succ n ih => rw [Lib.repeatL, ih, List.replicate_succ]; rfl
  have h := Tryz.strings_Repeat ⟨#[48]⟩ n w (by omega) (by show 1 * n ≤ _; omega)
  rw [e n] at h
  exact h

set_option maxHeartbeats 1000000 in
theorem implFig (k n u : Int) (w : World) (hf : Folds k n u) (h0 : 0 ≤ u) (h1 : u ≤ 1000000) :
    Calls Tryz.prog 72 #[.int .i64 k, .int .i64 n] w fun e w' => e = .returned (.tuple #[.int .i64 (u + 1), .int .i64 (wid (u + 1))]) ∧ w' = w := by
  have HF : Hid (Folds k n u) := hf
  clear hf
  go_enter Tryz.func72, Tryz.ntmps72
  go_wp2_with (first
    | (go_at_call 78; refine (HF.out _).mono ?_; rintro e w1 ⟨rfl, hw⟩; subst w1)
    | (go_at_call 79; refine (len_any _ _ (by omega) (by omega)).mono ?_; rintro e w1 ⟨rfl, hw⟩; subst w1))
  go_ret2
  exact ⟨rfl, rfl⟩
theorem implFig_no (k n : Int) (w : World) (hf : FoldsNot k n) :
    Calls Tryz.prog 72 #[.int .i64 k, .int .i64 n] w fun e w' => e = .returned (.tuple #[.int .i64 0, .int .i64 0]) ∧ w' = w := by
  have HF : Hid (FoldsNot k n) := hf
  clear hf
  go_enter Tryz.func72, Tryz.ntmps72
  go_wp2_with (go_at_call 78; refine (HF.out _).mono ?_; rintro e w1 ⟨rfl, hw⟩; subst w1)
  go_ret2
  exact ⟨rfl, rfl⟩

set_option maxHeartbeats 1000000 in
theorem implRow (k n u : Int) (w : World) (hf : Folds k n u) (h0 : 0 ≤ u) (h1 : u ≤ 1000000) :
    Calls Tryz.prog 64 #[.int .i64 k, .int .i64 n] w fun e w' => e = .returned (.tuple #[.string (ueS u), .bool true]) ∧ Below w.heap.size w w' := by
  have HF : Hid (Folds k n u) := hf
  clear hf
  obtain ⟨l1, l20, _, wu⟩ := wid_pow (u + 1) (by omega) (by omega)
  have hj := ueS_join u
  have hg := implFig k n u w HF.out h0 h1
  have hx := fun w => implFix (u + 1) (wid (u + 1)) w (by omega) (by omega) wu
  generalize wid (u + 1) = m at hg l1 l20 hj hx
  clear wu
  have HJ : Hid (strOfNums (List.replicate (m - 1) 48) ++ strOfNums (fixL (u + 1) m) = ueS u) := hj
  have HX : Hid (∀ w : World, Calls Tryz.prog 73 #[.int .i64 (u + 1), .int .i64 (m : Int)] w fun e w' => e = .returned (.tuple #[.string (strOfNums (fixL (u + 1) m)), .bool true]) ∧ Below w.heap.size w w') := hx
  have HG : Hid (Calls Tryz.prog 72 #[.int .i64 k, .int .i64 n] w fun e w' => e = .returned (.tuple #[.int .i64 (u + 1), .int .i64 (m : Int)]) ∧ w' = w) := hg
  clear hg hx hj
  have m1 : (1 : Int) ≤ (m : Int) := by omega
  have m2 : (m : Int) ≤ 20 := by omega
  have m3 : ((m : Int) == 0) = false := by rw [beq_eq_false_iff_ne]; omega
  have hlim : ¬ 9223372036854775807 < (strOfNums (List.replicate (m - 1) 48)).size + (strOfNums (fixL (u + 1) m)).size := by
    rw [strOfNums_size, strOfNums_size, List.length_replicate, fixL_length]; omega
  go_enter Tryz.func64, Tryz.ntmps64
  go_wp2_with (first
    | (go_at_call 72; refine HG.out.mono ?_; rintro e w1 ⟨rfl, hw⟩; subst w1)
    | (go_at_call 73; refine (HX.out _).mono ?_; rintro e w2 ⟨rfl, hb2⟩)
    | (go_at_call 74; refine (repeat_zero _ _ (by omega) (by omega)).mono ?_; rintro e w3 ⟨rfl, hb3⟩))
  go_ret2
  refine ⟨?_, hb2.trans (hb3.mono hb2.size)⟩
  rw [← HJ.out]
  rfl
theorem implRow_no (k n : Int) (w : World) (hf : FoldsNot k n) :
    Calls Tryz.prog 64 #[.int .i64 k, .int .i64 n] w fun e w' => e = .returned (.tuple #[.string ⟨#[]⟩, .bool false]) ∧ w' = w := by
  have HF : Hid (FoldsNot k n) := hf
  clear hf
  go_enter Tryz.func64, Tryz.ntmps64
  go_wp2_with (go_at_call 72; refine (implFig_no k n w HF.out).mono ?_; rintro e w1 ⟨rfl, hw⟩; subst w1)
  go_ret2
  exact ⟨rfl, rfl⟩
end Go.Proofs.YtnlbigjfnjcldaaGreat

namespace Go.Proofs.YtnlbigjfnjcldaaGreat
open Go.RowKit
set_option linter.unusedVariables false

/-- The cells when the first k places are filled with c. -/
def longUp (c : Int) (k i : Nat) : Int := if i < k then c else 0
theorem longUp_full (c : Int) (n : Nat) : (List.range n).map (longUp c n) = List.replicate n c := by
  rw [List.eq_replicate_iff]
  refine ⟨by simp, fun x hx => ?_⟩
  obtain ⟨i, hi, rfl⟩ := List.mem_map.1 hx
  simp [longUp, List.mem_range.1 hi]
theorem longUp_set (c : Int) (n k : Nat) : (((List.range n).map (longUp c k)).map (Value.int .u8)).set k (.int .u8 c) = ((List.range n).map (longUp c (k + 1))).map (Value.int .u8) := by
  rw [List.map_map, List.map_map]
  have e : Value.int .u8 c = (Value.int .u8 ∘ longUp c (k + 1)) k := by simp [longUp]
  rw [e]
  refine range_set n k _ _ (fun i hi => ?_)
  simp only [Function.comp, longUp]
  by_cases h : i < k
  · simp [h, Nat.lt_succ_of_lt h]
  · simp [h, show ¬ i < k + 1 by omega]
theorem longUp_zero (c : Int) (n : Nat) : (madeCells (Value.int .u8 0).cells (n * 1)).toList = ((List.range n).map (longUp c 0)).map (Value.int .u8) := by
  rw [made_one _ _ rfl, List.map_map]; apply List.map_congr_left; intro i hi; simp [longUp]

set_option maxHeartbeats 1000000 in
theorem specLong (n : Nat) (c : Int) (w : World) (hn : (n : Int) ≤ 1000000) :
    Calls Tryz.prog 66 #[.int .i64 n, .int .u8 c] w fun e w' => e = .returned (.string (strOfNums (List.replicate n c))) ∧ Below w.heap.size w w' := by
  obtain ⟨i0, hi0, hz0, hz1, hz2⟩ := info_parts infoF
  go_enter Tryz.func66, Tryz.ntmps66
  go_wp2_with (at_make; refine wpList_make_full _ (by rfl) _ _ 22 (by rfl) w.heap.size 5 i0 (.int .u8 0) 1 Tryz.underlying22 hi0 hz0 hz1 .i64 .i64 _ _ n (by rfl) (by rfl) (by rfl) (by rfl) (by rw [hz2]; omega) (by unfold maxLen; omega) (Nat.le_refl _) ?_; intro w1 hown0 hgrow0)
  have hb0 : Below w.heap.size w w1 := (Below.refl _ _).grown hgrow0 (Nat.le_refl _) (fun j hj => by cases hj)
  clear hgrow0
  rw [longUp_zero c n] at hown0
  go_loopw [6] (fun i wr => ∃ j : Nat, j ≤ n ∧ i = .int .i64 (j : Int) ∧ wr.ownsRow w.heap.size 5 1 (.slice (some ⟨w.heap.size, 0, none⟩) n n) n (((List.range n).map (longUp c j)).map (Value.int .u8)) ∧ Below w.heap.size w wr)
    (fun i _ => n - (intOf i).toNat)
  case atStart => exact ⟨0, Nat.zero_le _, rfl, hown0, hb0⟩
  case round =>
    obtain ⟨j, hj, rfl, hown, hb⟩ := hrel
    clear hown0 hb0
    by_cases hlt : j < n
    · have hq : (j : Int) < (n : Int) := by omega
      have hc := hown.cellAt j (by omega)
      have hfz := hown.frozenAt j
      have hc' : wr.cell? ⟨w.heap.size, j, none⟩ = some (.int .u8 (longUp c j j)) := by rw [hc]; simp [hlt]
      have hst := hown.stored j (.int .u8 c)
      clear hc
      have hbs := hb.grown hst.2 hb.size (fun j hj => by cases hj; exact Nat.le_refl _)
      have hos := hst.1
      rw [longUp_set] at hos
      go_wp2
      go_roundw
      case rel => exact ⟨j + 1, by omega, by go_num, hos, hbs⟩
      case measure => simp [intOf]; omega
    · obtain rfl : j = n := by omega
      rw [longUp_full] at hown
      have hconv := convF hown
      go_wp2
      go_ret
      exact ⟨rfl, hb⟩

theorem strOfNums_cons (x : Int) (l : List Int) : strOfNums [x] ++ strOfNums l = strOfNums (x :: l) := by
  apply ByteArray.ext
  apply Array.ext'
  rw [ByteArray.data_append, Array.toList_append, strOfNums_data, strOfNums_data, strOfNums_data]
  rfl

set_option maxHeartbeats 1000000 in
theorem specUe (n : Int) (w : World) (h0 : 0 ≤ n) (h1 : n ≤ 1000000) :
    Calls Tryz.prog 56 #[.int .i64 n] w fun e w' => e = .returned (.string (ueS n)) ∧ Below w.heap.size w w' := by
  obtain ⟨l1, l20, _, _⟩ := wid_pow (n + 1) (by omega) (by omega)
  have HH : Hid (∀ j, 0 < (n + 1) / 2 ^ j ↔ j < wid (n + 1)) := fun j => half_wid (n + 1) j (by omega) (by omega)
  have HJ : Hid (strOfNums (List.replicate (wid (n + 1) - 1) 48) ++ strOfNums (fixL (n + 1) (wid (n + 1))) = ueS n) := ueS_join n
  generalize wid (n + 1) = m at *
  go_enter Tryz.func56, Tryz.ntmps56
  go_wp2
  go_loopw [3, 4] (fun x s wr => ∃ j : Nat, j ≤ m ∧ x = .int .i64 ((n + 1) / 2 ^ j) ∧ s = .string (strOfNums (fixL (n + 1) j)) ∧ Below w.heap.size w wr)
    (fun x _ _ => (intOf x).toNat)
  case atStart => exact ⟨0, Nat.zero_le _, by simp, rfl, Below.refl _ _⟩
  case round =>
    obtain ⟨j, hj, rfl, rfl, hb⟩ := hrel
    obtain ⟨x, hx⟩ : ∃ x, (n + 1) / 2 ^ j = x := ⟨_, rfl⟩
    have hbd := div_pow_bd (n + 1) j (by omega)
    have HL := HH.out j
    rw [hx] at hbd HL ⊢
    obtain ⟨x0, x1⟩ := hbd
    by_cases hlt : 0 < x
    · have hjm : j + 1 ≤ m := by have := HL.1 hlt; omega
      have HX : Hid ((n + 1) / 2 ^ (j + 1) = x / 2) := by show _ = _; rw [← half_pow, hx]
      have HS : Hid (strOfNums [48 + x % 2] ++ strOfNums (fixL (n + 1) j) = strOfNums (fixL (n + 1) (j + 1))) := by
        show _ = _
        rw [fixL_succ, hx, strOfNums_cons]
      have hown : (wr.alloc (.cells #[.int .u8 (48 + x % 2)] 5)).ownsRow w.heap.size 5 1 (.slice (some ⟨wr.heap.size, 0, none⟩) 1 1) 1 ([48 + x % 2].map (Value.int .u8)) := World.ownsRow_lit wr #[.int .u8 (48 + x % 2)] 1 hb.size (by unfold maxLen; omega) rfl
      have hbA : Below w.heap.size w (wr.alloc (.cells #[.int .u8 (48 + x % 2)] 5)) := hb.alloc hb.size _
      have hconv := convF (zs := [48 + x % 2]) hown
      have hlim : ¬ 9223372036854775807 < (strOfNums [48 + x % 2]).size + (strOfNums (fixL (n + 1) j)).size := by
        rw [strOfNums_size, strOfNums_size, fixL_length, List.length_singleton]; omega
      have hl1 : x / 2 < x := by omega
      clear HL hown
      go_wp2
      go_roundw
      case rel => exact ⟨j + 1, hjm, by rw [HX.out], by rw [← HS.out], hbA⟩
      case measure => simp [intOf]; omega
    · have hjm : j = m := by
        have := HL.2
        by_cases c : j < m
        · exact absurd (this c) hlt
        · omega
      subst hjm
      clear HL
      obtain ⟨q, rfl⟩ : ∃ q, j = q + 1 := ⟨j - 1, by omega⟩
      have HL : Hid (Calls Tryz.prog 66 #[.int .i64 (q : Int), .int .u8 48] wr fun e w' => e = .returned (.string (strOfNums (List.replicate q 48))) ∧ Below wr.heap.size wr w') := specLong q 48 wr (by omega)
      have hsz : (strOfNums (fixL (n + 1) (q + 1))).size = q + 1 := by rw [strOfNums_size, fixL_length]
      have hlim : ¬ 9223372036854775807 < (strOfNums (List.replicate q 48)).size + (strOfNums (fixL (n + 1) (q + 1))).size := by
        rw [strOfNums_size, strOfNums_size, fixL_length, List.length_replicate]; omega
      go_wp2_with (go_at_call 66; refine HL.out.mono ?_; rintro e w2 ⟨rfl, hb2⟩)
      go_ret
      refine ⟨?_, hb.trans (hb2.mono hb.size)⟩
      rw [← HJ.out]
      rfl
end Go.Proofs.YtnlbigjfnjcldaaGreat

namespace Go.Proofs.YtnlbigjfnjcldaaGreat
open Go.RowKit
set_option linter.unusedVariables false

theorem folds_ue (n : Int) (h : 0 ≤ n ∧ n ≤ 1000000) : Folds 0 n n := fun w => implPlain n w h
theorem folds_ue_no (n : Int) (h : n < 0 ∨ 1000000 < n) : FoldsNot 0 n := fun w => implPlain_no n w h
theorem folds_se (n : Int) (h : -500000 ≤ n ∧ n ≤ 500000) : Folds 1 n (seF n) := fun w => implFold n w h
theorem folds_se_no (n : Int) (h : n < -500000 ∨ 500000 < n) : FoldsNot 1 n := fun w => implFold_no n w h

theorem specSe (n : Int) (w : World) (h : -500000 ≤ n ∧ n ≤ 500000) :
    Calls Tryz.prog 57 #[.int .i64 n] w fun e w' => e = .returned (.string (ueS (seF n))) ∧ Below w.heap.size w w' := by
  have HN : Hid (-500000 ≤ n ∧ n ≤ 500000) := h
  obtain ⟨b0, b1⟩ := seF_bd n h
  clear h
  go_enter Tryz.func57, Tryz.ntmps57
  go_wp2_with (first
    | (go_at_call 67; refine (specFold n _ HN.out).mono ?_; rintro e w1 ⟨rfl, hw⟩; subst w1)
    | (go_at_call 56; refine (specUe _ _ b0 b1).mono ?_; rintro e w2 ⟨rfl, hb⟩))
  go_ret
  exact ⟨rfl, hb⟩

theorem implUeRow (n : Int) (w : World) (h : 0 ≤ n ∧ n ≤ 1000000) :
    Calls Tryz.prog 52 #[.int .i64 n] w fun e w' => e = .returned (.tuple #[.string (ueS n), .bool true]) ∧ Below w.heap.size w w' := by
  have HN : Hid (0 ≤ n ∧ n ≤ 1000000) := h
  clear h
  go_enter Tryz.func52, Tryz.ntmps52
  go_wp2_with (go_at_call 64; refine (implRow _ n n _ (folds_ue n HN.out) HN.out.1 HN.out.2).mono ?_; rintro e w1 ⟨rfl, hb⟩)
  go_ret2
  exact ⟨rfl, hb⟩
theorem implUeRow_no (n : Int) (w : World) (h : n < 0 ∨ 1000000 < n) :
    Calls Tryz.prog 52 #[.int .i64 n] w fun e w' => e = .returned (.tuple #[.string ⟨#[]⟩, .bool false]) ∧ w' = w := by
  have HN : Hid (n < 0 ∨ 1000000 < n) := h
  clear h
  go_enter Tryz.func52, Tryz.ntmps52
  go_wp2_with (go_at_call 64; refine (implRow_no _ n _ (folds_ue_no n HN.out)).mono ?_; rintro e w1 ⟨rfl, hw⟩; subst w1)
  go_ret2
  exact ⟨rfl, rfl⟩
theorem implSeRow (n : Int) (w : World) (h : -500000 ≤ n ∧ n ≤ 500000) :
    Calls Tryz.prog 121 #[.int .i64 n] w fun e w' => e = .returned (.tuple #[.string (ueS (seF n)), .bool true]) ∧ Below w.heap.size w w' := by
  have HN : Hid (-500000 ≤ n ∧ n ≤ 500000) := h
  clear h
  go_enter Tryz.func121, Tryz.ntmps121
  go_wp2_with (go_at_call 64; refine (implRow _ n (seF n) _ (folds_se n HN.out) (seF_bd n HN.out).1 (seF_bd n HN.out).2).mono ?_; rintro e w1 ⟨rfl, hb⟩)
  go_ret2
  exact ⟨rfl, hb⟩
theorem implSeRow_no (n : Int) (w : World) (h : n < -500000 ∨ 500000 < n) :
    Calls Tryz.prog 121 #[.int .i64 n] w fun e w' => e = .returned (.tuple #[.string ⟨#[]⟩, .bool false]) ∧ w' = w := by
  have HN : Hid (n < -500000 ∨ 500000 < n) := h
  clear h
  go_enter Tryz.func121, Tryz.ntmps121
  go_wp2_with (go_at_call 64; refine (implRow_no _ n _ (folds_se_no n HN.out)).mono ?_; rintro e w1 ⟨rfl, hw⟩; subst w1)
  go_ret2
  exact ⟨rfl, rfl⟩
end Go.Proofs.YtnlbigjfnjcldaaGreat
