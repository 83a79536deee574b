/-
  What is put into a row as runs is read back, wherever it stands; noughts alone take one sign.
-/
import Derived.Test.YtknfcfbioabdnaaRunRd
import Derived.Test.YtknfcfbioabdnaaRunSpec
import Derived.Test.YtknfcfbioabdnaaRunBacks
namespace Go.Proofs.Ytknfcfbioabdnaa
open Go.RowKit
set_option linter.unusedVariables false
set_option maxRecDepth 20000

theorem cnt_put {s p q : ByteArray} {F : Nat → Option (Int × Nat)} (hF : IsCnt s F) {n : Int} (h0 : 0 ≤ n) (h1 : n ≤ 1000000) (hs : s = p ++ ueS n ++ q) : F p.size = some (n, p.size + (ueL n).length) := by
  have hc := counted_put p q n h0 h1
  rw [← hs] at hc
  rw [hF.of hc]
  obtain ⟨a1, a2, a3⟩ := ueL_len n h0 h1
  rw [a1]
  congr 2
  omega
theorem rn_prefix (xs : List Int) (t : Nat) : ∀ d, ∃ r, rnF xs (t + d) = rnF xs t ++ r
  | 0 => ⟨[], by rw [List.append_nil]; rfl⟩
  | d + 1 => by
    obtain ⟨r, hr⟩ := rn_prefix xs t d
    by_cases h : xs.getD (t + d) 0 = 0
    · exact ⟨r, by show rnF xs (t + d + 1) = _; rw [rnF_nought h, hr]⟩
    · exact ⟨r ++ [(zrF xs (t + d), xs.getD (t + d) 0)], by show rnF xs (t + d + 1) = _; rw [rnF_level h, hr, List.append_assoc]⟩
theorem rn_prefix' (xs : List Int) {t n : Nat} (h : t ≤ n) : ∃ r, rnF xs n = rnF xs t ++ r := by
  obtain ⟨r, hr⟩ := rn_prefix xs t (n - t)
  exact ⟨r, by rw [← hr]; congr 1; omega⟩

/-- As far as t numbers of the list have been gone through. -/
theorem iter_put {xs : List Int} {s P Q : ByteArray} {F : Nat → Option (Int × Nat)} (hF : IsCnt s F) (hl : xs.length ≤ 64) (hb : inB 5000 xs = true) (hs : s = P ++ strOfNums (rowL (rnF xs xs.length)) ++ Q) :
    ∀ t, t ≤ xs.length → iterR F xs.length (P.size + (ueL ((rnF xs xs.length).length : Int)).length) (rnF xs t).length = some ((fun i => if i < t then xs.getD i 0 else 0), t - zrF xs t, P.size + (ueL ((rnF xs xs.length).length : Int)).length + (bodyL (rnF xs t)).length)
  | 0, _ => by
    show some _ = some _
    congr 2
  | t + 1, ht => by
    have ih := iter_put hF hl hb hs t (by omega)
    have hz := zr_rn_le xs t
    by_cases h : xs.getD t 0 = 0
    · rw [rnF_nought h, zrF_nought h, ih]
      congr 2
      · funext i
        by_cases h1 : i < t
        · rw [if_pos h1, if_pos (by omega)]
        · by_cases h2 : i = t
          · rw [if_neg h1, if_pos (by omega), h2, h]
          · rw [if_neg h1, if_neg (by omega)]
      · congr 1
        omega
    · obtain ⟨r, hr⟩ := rn_prefix' xs (t := t + 1) ht
      have hx := inB_iff.1 hb t (by omega)
      have hs1 := seF_in hx
      rw [rnF_level h] at hr
      have e : s = (P ++ strOfNums (ueL ((rnF xs xs.length).length : Int) ++ bodyL (rnF xs t))) ++ ueS (zrF xs t : Int) ++ (strOfNums (ueL (seF (xs.getD t 0)) ++ bodyL r) ++ Q) := by
        rw [hs, ueS_is]
        rw [ByteArray.append_assoc, ByteArray.append_assoc, ByteArray.append_assoc]
        congr 1
        rw [← ByteArray.append_assoc, ← ByteArray.append_assoc]
        congr 1
        rw [strOfNums_app, strOfNums_app]
        congr 1
        unfold rowL
        rw [List.append_assoc, List.append_assoc]
        congr 1
        rw [hr, bodyL_append, bodyL_append, bodyL_one]
        unfold runL
        simp only [List.append_assoc]
      have e2 : s = (P ++ strOfNums (ueL ((rnF xs xs.length).length : Int) ++ bodyL (rnF xs t) ++ ueL (zrF xs t : Int))) ++ ueS (seF (xs.getD t 0)) ++ (strOfNums (bodyL r) ++ Q) := by
        rw [e, ueS_is, ueS_is]
        rw [ByteArray.append_assoc, ByteArray.append_assoc, ByteArray.append_assoc, ByteArray.append_assoc]
        congr 1
        rw [← ByteArray.append_assoc, ← ByteArray.append_assoc, ← ByteArray.append_assoc, ← ByteArray.append_assoc]
        congr 1
        rw [strOfNums_app, strOfNums_app, strOfNums_app, strOfNums_app]
        congr 1
        simp only [List.append_assoc]
      have c1 := cnt_put hF (by omega) (by omega) e
      have c2 := cnt_put hF hs1.1 (by omega) e2
      rw [ByteArray.size_append, sizeS, List.length_append, ← Nat.add_assoc] at c1
      rw [ByteArray.size_append, sizeS, List.length_append, List.length_append, ← Nat.add_assoc, ← Nat.add_assoc] at c2
      have hlv : levB (seO (seF (xs.getD t 0))) = true := by
        rw [seO_seF]
        unfold levB
        rw [decide_eq_false h, decide_eq_true hx.1, decide_eq_true hx.2]
        rfl
      have c3 := oneR_some c1 c2 hlv
      rw [seO_seF, Int.toNat_natCast] at c3
      rw [rnF_level h, zrF_level h, List.length_append]
      show stepR F xs.length (iterR F xs.length _ (rnF xs t).length) = _
      rw [ih, step_on c3 (by omega), show t - zrF xs t + zrF xs t = t by omega]
      congr 2
      · funext i
        unfold updF
        by_cases h1 : i = t
        · rw [if_pos h1, if_pos (by omega), h1]
        · rw [if_neg h1]
          show (if i < t then xs.getD i 0 else 0) = _
          by_cases h2 : i < t
          · rw [if_pos h2, if_pos (by omega)]
          · rw [if_neg h2, if_neg (by omega)]
      · congr 1
        rw [bodyL_append, bodyL_one, List.length_append]
        unfold runL
        rw [List.length_append]
        dsimp only
        omega
/-- What is put is read: the list, the place behind it, and true. -/
theorem read_put {xs : List Int} {s P Q : ByteArray} {F : Nat → Option (Int × Nat)} (hF : IsCnt s F) (hy : rnOk xs = true) (hs : s = P ++ rnS xs ++ Q) (hr : rowOkB s = true) :
    ansL xs.length (rdSt F s (P.size : Int) (xs.length : Int)) = xs ∧ ansE (rdSt F s (P.size : Int) (xs.length : Int)) = (P.size : Int) + ((rnS xs).size : Int) ∧ ansY (rdSt F s (P.size : Int) (xs.length : Int)) = true := by
  obtain ⟨h1, h2⟩ := rnOk_of hy
  have hl : xs.length ≤ 64 := by rcases h1 with h | h <;> omega
  have e0 : rnS xs = strOfNums (rowL (rnF xs xs.length)) := if_pos hy
  rw [e0] at hs ⊢
  have hz := zr_rn_le xs xs.length
  have hp : P.size ≤ s.size := by rw [hs, ByteArray.size_append, ByteArray.size_append]; omega
  have hc := iter_put hF hl h2 hs xs.length (Nat.le_refl _)
  have e1 : s = P ++ ueS ((rnF xs xs.length).length : Int) ++ (strOfNums (bodyL (rnF xs xs.length)) ++ Q) := by
    rw [hs, ueS_is]
    unfold rowL
    rw [← strOfNums_app, ByteArray.append_assoc, ByteArray.append_assoc, ByteArray.append_assoc]
  have c1 := cnt_put hF (by omega) (by omega) e1
  have e2 : rdSt F s (P.size : Int) (xs.length : Int) = readR F xs.length P.size := by
    unfold rdSt
    rw [if_pos ⟨placeB_yes s P.size (by omega) hr, by omega⟩]
    rfl
  rw [e2, readR_some c1, Int.toNat_natCast, hc]
  refine ⟨?_, ?_, rfl⟩
  · show listF xs.length (fun i => if i < xs.length then xs.getD i 0 else 0) = xs
    have := listF_self xs
    exact (listF_congr fun i hi => by rw [if_pos hi]).trans this
  · show ((P.size + (ueL ((rnF xs xs.length).length : Int)).length + (bodyL (rnF xs xs.length)).length : Nat) : Int) = _
    rw [sizeS]
    unfold rowL
    rw [List.length_append]
    omega
theorem rnS_signs {xs : List Int} (hy : rnOk xs = true) : Signs (nums (rnS xs)) := by
  have e0 : rnS xs = strOfNums (rowL (rnF xs xs.length)) := if_pos hy
  rw [e0, nums_of _ (rowL_signs _).bd]
  exact rowL_signs _
theorem rn_noughts {xs : List Int} (h : ∀ i, i < xs.length → xs.getD i 0 = 0) : ∀ k, k ≤ xs.length → rnF xs k = []
  | 0, _ => rfl
  | k + 1, hk => by rw [rnF_nought (h k (by omega))]; exact rn_noughts h k (by omega)
theorem noughts_row {n : Nat} (hn : n = 16 ∨ n = 64) : rnOk (listF n (fun _ => 0)) = true ∧ rnS (listF n (fun _ => 0)) = ⟨#[49]⟩ := by
  have hy : rnOk (listF n (fun _ => 0)) = true := by
    unfold rnOk
    rw [listF_length]
    have : inB 5000 (listF n (fun _ => 0)) = true := inB_iff.2 fun i hi => by
      rw [listF_length] at hi
      rw [listF_get _ hi]
      omega
    rw [this]
    rcases hn with rfl | rfl <;> rfl
  refine ⟨hy, ?_⟩
  have e0 : rnS (listF n (fun _ => 0)) = strOfNums (rowL (rnF (listF n (fun _ => 0)) (listF n (fun _ => 0)).length)) := if_pos hy
  rw [e0, rn_noughts (fun i hi => by rw [listF_length] at hi; exact listF_get _ hi) _ (Nat.le_refl _)]
  decide +kernel
end Go.Proofs.Ytknfcfbioabdnaa
