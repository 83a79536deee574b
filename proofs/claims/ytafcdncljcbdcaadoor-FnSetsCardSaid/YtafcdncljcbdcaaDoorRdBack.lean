/-
  What was put is read: sets and pars come back from their rows, wherever these stand.
-/
import Derived.Test.YtafcdncljcbdcaaDoorRdMath
import Derived.Test.YtafcdncljcbdcaaDoorSeqRead
import Derived.Test.YtafcdncljcbdcaaDoorParBack
import Derived.Test.YtafcdncljcbdcaaDoorNumKit
namespace Go.Proofs.YtafcdncljcbdcaaDoor
open Go.RowKit
set_option linter.unusedVariables false
set_option maxRecDepth 20000

theorem F_put {F : Nat → Option (Int × Nat)} {s : ByteArray} (hF : IsCnt s F) (P Q : ByteArray) (n : Int) (h0 : 0 ≤ n) (h1 : n ≤ 1000000) (hs : s = P ++ ueS n ++ Q) : F P.size = some (n, P.size + (ueS n).size) := by
  subst hs
  have hc := counted_put P Q n h0 h1
  have e := hF.of hc
  have hz := ueS_size n h0 h1
  have hw := wid_pow (n + 1) (by omega) (by omega)
  rw [e, show P.size + (wid (n + 1) - 1) + (wid (n + 1) - 1 + 1) = P.size + (ueS n).size by omega]
theorem cnt_put {F : Nat → Option (Int × Nat)} {s : ByteArray} (hF : IsCnt s F) (P Q : ByteArray) (n : Int) (h0 : 0 ≤ n) (h1 : n ≤ 1000000) (hs : s = P ++ ueS n ++ Q) : cnt F (some P.size) = (n, some (P.size + (ueS n).size)) := by
  have e := F_put hF P Q n h0 h1 hs
  simp [cnt, e]
theorem listT_split (xs : List Int) (k : Nat) : ∀ n, k < n → ∃ R, listT xs n = listT xs k ++ ueS (xs.getD k 0) ++ R
  | 0, h => by omega
  | n + 1, h => by
    rcases Nat.lt_succ_iff_lt_or_eq.1 h with h1 | rfl
    · obtain ⟨R, hR⟩ := listT_split xs k n h1
      exact ⟨R ++ ueS (xs.getD n 0), by rw [listT, hR, ByteArray.append_assoc]⟩
    · exact ⟨⟨#[]⟩, by rw [listT]; apply ByteArray.ext; rw [ByteArray.data_append, ByteArray.data_append]; simp⟩
theorem listT_head (xs : List Int) : ∀ n, ∃ R, listT xs n = ueS xs.length ++ R
  | 0 => ⟨⟨#[]⟩, by rw [listT]; apply ByteArray.ext; rw [ByteArray.data_append]; simp⟩
  | n + 1 => by
    obtain ⟨R, hR⟩ := listT_head xs n
    exact ⟨R ++ ueS (xs.getD n 0), by rw [listT, hR, ByteArray.append_assoc]⟩
/-- A list of sides comes back. -/
theorem lst_put {F : Nat → Option (Int × Nat)} {s : ByteArray} (hF : IsCnt s F) (P Q : ByteArray) (xs : List Int) (hl : xs.length ≤ 4) (hg : goodT xs xs.length) (hs : s = P ++ listS xs ++ Q) : lst F (some P.size) = (xs, some (P.size + (listS xs).size)) := by
  have h0 : cnt F (some P.size) = ((xs.length : Int), some (P.size + (ueS xs.length).size)) := by
    obtain ⟨R, hR⟩ := listT_head xs xs.length
    refine cnt_put hF P (R ++ Q) _ (by omega) (by omega) ?_
    rw [hs]; unfold listS; rw [hR]; simp only [ByteArray.append_assoc]
  have hst : ∀ k, k ≤ xs.length → stA F (some (P.size + (ueS xs.length).size)) k = some (P.size + (listT xs k).size) := by
    intro k
    induction k with
    | zero => intro _; rfl
    | succ k ih =>
      intro hk
      obtain ⟨R, hR⟩ := listT_split xs k xs.length (by omega)
      obtain ⟨g0, g1⟩ := hg k (by omega)
      have e := cnt_put hF (P ++ listT xs k) (R ++ Q) (xs.getD k 0) (by omega) (by omega) (by rw [hs]; unfold listS; rw [hR]; simp only [ByteArray.append_assoc])
      rw [ByteArray.size_append] at e
      rw [stA, ih (by omega), e, listT, ByteArray.size_append, Nat.add_assoc]
  have hval : ∀ k, k < xs.length → valA F (some (P.size + (ueS xs.length).size)) k = xs.getD k 0 := by
    intro k hk
    obtain ⟨R, hR⟩ := listT_split xs k xs.length hk
    obtain ⟨g0, g1⟩ := hg k hk
    have e := cnt_put hF (P ++ listT xs k) (R ++ Q) (xs.getD k 0) (by omega) (by omega) (by rw [hs]; unfold listS; rw [hR]; simp only [ByteArray.append_assoc])
    rw [ByteArray.size_append] at e
    unfold valA
    rw [hst k (by omega), e]
  unfold lst
  rw [h0]
  simp only []
  rw [if_neg (by omega), Int.toNat_natCast, hst _ (Nat.le_refl _)]
  congr 1
  apply List.ext_getElem
  · simp
  · intro i h1 h2
    rw [List.getElem_map, List.getElem_range, hval i h2, List.getD_eq_getElem?_getD, List.getElem?_eq_getElem h2]; rfl
theorem ueS_signs (n : Int) : Signs (nums (ueS n)) := by rw [ueS_nums]; exact ueL_signs n
theorem listT_signs (xs : List Int) : ∀ k, Signs (nums (listT xs k))
  | 0 => ueS_signs _
  | k + 1 => by rw [listT, nums_append]; exact (listT_signs xs k).append (ueS_signs _)
theorem fixS_signs (n : Int) (k : Nat) : Signs (nums (strOfNums (fixL n k))) := by rw [nums_of _ (fixL_signs n k).bd]; exact fixL_signs n k
theorem seqS_signs (l b : Int) (xs ys : List Int) : Signs (nums (seqS l b xs ys)) := by
  unfold seqS
  rw [nums_append, nums_append, nums_append]
  exact (((ueS_signs l).append (fixS_signs b 4)).append (listT_signs xs _)).append (listT_signs ys _)
theorem flagS_signs (b : Bool) : Signs (nums (flagS b)) := by
  cases b
  · intro x hx; left; simpa [flagS, nums] using hx
  · intro x hx; right; simpa [flagS, nums] using hx
theorem parS_signs (q : Int) (g x c : Bool) : Signs (nums (parS q g x c)) := by
  unfold parS
  rw [nums_append, nums_append, nums_append]
  exact (((fixS_signs q 6).append (flagS_signs g)).append (flagS_signs x)).append (flagS_signs c)
theorem seqS_size {l b : Int} {xs ys : List Int} (h : seqB l b xs ys = true) : (seqS l b xs ys).size ≤ 600 := by
  obtain ⟨⟨v0, v1⟩, _, ⟨x1, x2, _⟩, ⟨y1, y2, _⟩⟩ := seqB_parts h
  have hz1 := ueS_small l (by omega) (by omega)
  have hz2 := listS_size xs x1 x2
  have hz3 := listS_size ys y1 y2
  unfold seqS
  rw [ByteArray.size_append, ByteArray.size_append, ByteArray.size_append, strOfNums_size, fixL_length]
  omega
/-- A set comes back. -/
theorem seq_back {F : Nat → Option (Int × Nat)} {s : ByteArray} (hF : IsCnt s F) (P Q : ByteArray) (l b : Int) (xs ys : List Int) (h : seqB l b xs ys = true) (hs : s = P ++ seqS l b xs ys ++ Q) :
    rdOk F s (some P.size) = true ∧ rdL F (some P.size) = l ∧ rdB F s (some P.size) = b ∧ rdX F s (some P.size) = xs ∧ rdY F s (some P.size) = ys ∧ rdE F s (some P.size) = some (P.size + (seqS l b xs ys).size) := by
  obtain ⟨⟨v0, v1⟩, ⟨b0, b1⟩, ⟨x1, x2, _⟩, ⟨y1, y2, _⟩⟩ := seqB_parts h
  have hz : (strOfNums (fixL b 4)).size = 4 := by rw [strOfNums_size, fixL_length]
  have e1 := cnt_put hF P (strOfNums (fixL b 4) ++ listS xs ++ listS ys ++ Q) l (by omega) (by omega) (by rw [hs]; unfold seqS; simp only [ByteArray.append_assoc])
  have hfit : P.size + (ueS l).size + 4 ≤ s.size := by
    rw [hs]; unfold seqS; simp only [ByteArray.size_append, hz]; omega
  have er : readN s (P.size + (ueS l).size) 4 = b := by
    have := readN_put (P ++ ueS l) (listS xs ++ listS ys ++ Q) 4 b (by omega) (by omega)
    rw [ByteArray.size_append] at this
    rw [hs]; unfold seqS
    simp only [ByteArray.append_assoc] at this ⊢; exact this
  have e2 : fixR s 4 (some (P.size + (ueS l).size)) = (b, some (P.size + (ueS l).size + 4)) := by
    unfold fixR; simp only [hfit, ↓reduceIte, er]
  have e3 := lst_put hF (P ++ ueS l ++ strOfNums (fixL b 4)) (listS ys ++ Q) xs x1 x2 (by rw [hs]; unfold seqS; simp only [ByteArray.append_assoc])
  rw [ByteArray.size_append, ByteArray.size_append, hz] at e3
  have e4 := lst_put hF (P ++ ueS l ++ strOfNums (fixL b 4) ++ listS xs) Q ys y1 y2 (by rw [hs]; unfold seqS; simp only [ByteArray.append_assoc])
  rw [ByteArray.size_append, ByteArray.size_append, ByteArray.size_append, hz] at e4
  have hL : rdL F (some P.size) = l := by unfold rdL; rw [e1]
  have hB : rdB F s (some P.size) = b := by unfold rdB; rw [e1]; simp only []; rw [e2]
  have hX : rdX F s (some P.size) = xs := by unfold rdX; rw [e1]; simp only []; rw [e2]; simp only []; rw [e3]
  have hY : rdY F s (some P.size) = ys := by unfold rdY; rw [e1]; simp only []; rw [e2]; simp only []; rw [e3]; simp only []; rw [e4]
  have hE : rdE F s (some P.size) = some (P.size + (seqS l b xs ys).size) := by
    unfold rdE; rw [e1]; simp only []; rw [e2]; simp only []; rw [e3]; simp only []; rw [e4]
    unfold seqS; simp only [ByteArray.size_append, hz]
    congr 1; omega
  refine ⟨?_, hL, hB, hX, hY, hE⟩
  unfold rdOk; rw [hL, hB, hX, hY, hE, h]; rfl
theorem st0_at (s : ByteArray) (p : Nat) (h : p ≤ s.size) (hr : rowOkB s = true) : st0 s (p : Int) = some p := by
  unfold st0; rw [placeB_yes s p (by omega) hr]; rfl
theorem bAt_flag (P Q : ByteArray) (b : Bool) : (bAt (P ++ flagS b ++ Q) P.size == 49) = b := by
  have := bAt_mid P (flagS b) Q 0 (by rw [flagS_size]; omega)
  rw [Nat.add_zero] at this
  rw [this]
  cases b <;> rfl
/-- A par comes back. -/
theorem par_back (s P : ByteArray) (q : Int) (g x c : Bool) (h : parB q g x = true) (hr : rowOkB s = true) (hs : s = P ++ parS q g x c) :
    parV s (st0 s (P.size : Int)) = .tuple #[.agg #[.int .i64 q, .bool g, .bool x, .bool c], .int .i64 ((P.size : Int) + 9), .bool true] := by
  have hz : s.size = P.size + 9 := by rw [hs, ByteArray.size_append, parS_size]
  obtain ⟨q0, q1⟩ := parB_bd h
  rw [st0_at s P.size (by omega) hr]
  have hf : (strOfNums (fixL q 6)).size = 6 := by rw [strOfNums_size, fixL_length]
  obtain ⟨v1, v2, v3, v4, v5⟩ := rp_big s P.size (by omega)
  have e1 : readN s P.size 6 = q := by
    have := readN_put P (flagS g ++ flagS x ++ flagS c) 6 q (by omega) (by omega)
    rw [hs]; unfold parS; simp only [ByteArray.append_assoc] at this ⊢; exact this
  have e2 : (bAt s (P.size + 6) == 49) = g := by
    have := bAt_flag (P ++ strOfNums (fixL q 6)) (flagS x ++ flagS c) g
    rw [ByteArray.size_append, hf] at this
    rw [hs]; unfold parS; simp only [ByteArray.append_assoc] at this ⊢; exact this
  have e3 : (bAt s (P.size + 6 + 1) == 49) = x := by
    have := bAt_flag (P ++ strOfNums (fixL q 6) ++ flagS g) (flagS c) x
    rw [ByteArray.size_append, ByteArray.size_append, hf, flagS_size] at this
    rw [hs]; unfold parS; simp only [ByteArray.append_assoc] at this ⊢; exact this
  have e4 : (bAt s (P.size + 6 + 2) == 49) = c := by
    have := bAt_flag (P ++ strOfNums (fixL q 6) ++ flagS g ++ flagS x) ⟨#[]⟩ c
    rw [ByteArray.size_append, ByteArray.size_append, ByteArray.size_append, hf, flagS_size, flagS_size] at this
    rw [show P.size + 6 + 2 = P.size + 6 + 1 + 1 by omega, hs]; unfold parS
    have en : ∀ z : ByteArray, z ++ (⟨#[]⟩ : ByteArray) = z := fun z => by apply ByteArray.ext; rw [ByteArray.data_append]; simp
    rw [en] at this
    simp only [ByteArray.append_assoc] at this ⊢; exact this
  unfold parV
  rw [v1, v2, v3, v4, v5, e1, e2, e3, e4]
  simp only []
  rw [if_pos h]
  simp
end Go.Proofs.YtafcdncljcbdcaaDoor
