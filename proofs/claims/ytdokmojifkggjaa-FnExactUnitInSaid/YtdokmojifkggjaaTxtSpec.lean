/-
  The walk of spec.BytesRow: the row of a text.
-/
import Derived.Test.YtdokmojifkggjaaFixSpec
import Derived.Test.YtdokmojifkggjaaTxtMath
import Derived.Lib.AppendStr
import Derived.Deep.AppendLies
namespace Go.Proofs.Ytdokmojifkggjaa
open Go.RowKit
set_option linter.unusedVariables false
set_option maxRecDepth 20000

theorem conv_cut {w : World} {B n m g cap cap' : Nat} {zs : List Int} (h : w.ownsRow B 5 1 (.slice (some ⟨g, 0, none⟩) n cap) n (zs.map (Value.int .u8))) (hm : m ≤ n) :
    (convert 29 9 (.slice (some ⟨g, 0, none⟩) m cap')).run Try.prog w = .ok (.string (strOfNums (zs.take m))) w := by
  have hl := h.1
  simp at hl
  refine run_convert_bytes_arg w 29 5 Try.underlying29 Try.underlying5 g 0 m cap' (zs.take m) (by simp; omega) (fun i hi => ?_) 9 Try.underlying9
  rw [Nat.zero_add, h.cellAt i (by omega)]
  simp [List.getElem?_eq_getElem (show i < zs.length by omega), hi]
theorem own_belowT {w w' : World} {B e size n : Nat} {v : Value} {xs : List Value} (h : w.ownsRow B e size v n xs) (hb : Below w.heap.size w w') : w'.ownsRow B e size v n xs := by
  refine ⟨h.1, ?_⟩
  rcases h.2 with hn | ⟨g, cap, cur, rfl, h1, hg, rest⟩
  · exact .inl hn
  · refine .inr ⟨g, cap, cur, rfl, h1, ?_, rest⟩
    rw [hb.block g (Array.getElem?_eq_some_iff.1 hg).1]; exact hg
theorem own_cap {w : World} {B e n g cap : Nat} {xs : List Value} (h : w.ownsRow B e 1 (.slice (some ⟨g, 0, none⟩) n cap) n xs) : n ≤ cap := by
  rcases h.2 with ⟨h', _⟩ | ⟨g', cap', cur, h', _, _, hn, _⟩
  · simp at h'
  · simp only [Value.slice.injEq, Option.some.injEq, Addr.mk.injEq, and_true, true_and] at h'
    obtain ⟨rfl, rfl⟩ := h'
    exact hn
theorem sgL_take (t : ByteArray) (m n : Nat) (h : m ≤ n) : (sgL t n).take m = sgL t m := by
  unfold sgL
  rw [← List.map_take, List.take_range, Nat.min_eq_left h]

set_option maxHeartbeats 1600000 in
theorem specTxt (t : ByteArray) (w : World) (h : ¬ txtNo t) :
    Calls Try.prog 14 #[.string t] w fun e w' => e = .returned (.tuple #[.string (strOfNums (sgL t (txtLen t))), .bool true]) ∧ Below w.heap.size w w' := by
  obtain ⟨i0, hi0, hz0, hz1, hz2⟩ := info_parts infoF
  unfold txtNo at h
  have hs0' : (1 : Int) ≤ (t.size : Int) := by omega
  have hs1 : (t.size : Int) ≤ 50001 := by omega
  have hn4 : (txtLen t : Int) ≤ 400000 := by omega
  have hne : bAt t (t.size - 1) ≠ 0 := by omega
  clear h
  have hbd := bAt_bd t (t.size - 1)
  have hlast : (t[t.size - 1].toNat : Int) = bAt t (t.size - 1) := bAt_eq t (t.size - 1) (by omega)
  have hnz : ((t[t.size - 1].toNat : Int) == 0) = false := by rw [beq_eq_false_iff_ne]; omega
  have hsz : ((t.size : Int) == 0) = false := by rw [beq_eq_false_iff_ne]; omega
  have H1 : Hid (0 < bAt t (t.size - 1) ∧ bAt t (t.size - 1) ≤ 255) := by show _ ∧ _; omega
  have HN : Hid (txtLen t = 8 * t.size - 1 - tzI (bAt t (t.size - 1)) ∧ tzI (bAt t (t.size - 1)) ≤ 7) := ⟨rfl, tzI_lt _⟩
  clear hlast hbd hne
  go_enter Try.func14, Try.ntmps14
  go_wp2
  go_loopw [4, 5] (fun v i wr => ∃ (k g c : Nat), k ≤ t.size ∧ i = .int .i64 (k : Int) ∧ v = .slice (some ⟨g, 0, none⟩) (8 * k) c ∧ wr.ownsRow w.heap.size 5 1 v (8 * k) ((sgL t (8 * k)).map (Value.int .u8)) ∧ Below w.heap.size w wr)
    (fun _ i _ => t.size - (intOf i).toNat)
  case atStart => exact ⟨0, w.heap.size, 0, Nat.zero_le _, rfl, rfl, World.ownsRow_made w #[] 0 (Nat.le_refl _) (by unfold maxLen; omega) rfl, (Below.refl _ _).alloc (Nat.le_refl _) _⟩
  case round =>
    obtain ⟨k, g, c, hk, rfl, rfl, hown, hb⟩ := hrel
    by_cases hlt : k < t.size
    · have hX : (t[k].toNat : Int) = bAt t k := bAt_eq t k hlt
      have hbk := bAt_bd t k
      have hx1 : (t[k].toNat : Int) ≤ 255 := by omega
      have HX : Hid ((t[k].toNat : Int) = bAt t k) := hX
      clear hX hbk
      have hq : (k : Int) < (t.size : Int) := by omega
      have hfs : (strOfNums (fixL (t[k].toNat : Int) 8)).size = 8 := by rw [strOfNums_size, fixL_length]
      go_wp2_with (first
        | (go_at_call 20; refine (specFix (t[k].toNat : Int) 8 wr (by omega) (by omega) (by omega)).mono ?_; rintro e w1 ⟨rfl, hb1⟩; have hown1 := own_belowT hown hb1; have hs11 := hb1.size)
        | (at_builtin; refine Lib.wpList_append_own_string _ (by rfl) _ _ 29 9 (by rfl) w.heap.size 5 i0 Try.underlying29 Try.underlying9 hi0 hz0 hz1 hz2 _ (8 * k) _ (by rfl) hown1 _ (by rfl) (by rw [hfs]; unfold maxLen; omega) (by rw [hfs]; omega) (by have := hb.size; omega) ?_; intro v2 w2 hown2 hgrow2 hnil2))
      have hown3 : w2.ownsRow w.heap.size 5 1 v2 (8 * (k + 1)) ((sgL t (8 * (k + 1))).map (Value.int .u8)) := by
        rw [hfs] at hown2
        have hsc : Lib.strCells (strOfNums (fixL (t[k].toNat : Int) 8)) = (fixL (bAt t k) 8).map (Value.int .u8) := by
          rw [HX.out]; exact strCells_nums _ (fixL_signs _ _).bd
        rw [hsc] at hown2
        rw [show 8 * (k + 1) = 8 * k + 8 by omega, sgL_step, List.map_append]
        exact hown2
      have hb2 : Below w.heap.size w w2 := (hb.trans (hb1.mono hb.size)).grown hgrow2 (by have := hb.size; omega) (fun j hj => (hown.lt j hj).1)
      obtain ⟨g2, c2, rfl, _, _⟩ := hown3.form (by omega)
      go_roundw
      case rel => exact ⟨k + 1, g2, c2, by omega, by go_num, rfl, hown3, hb2⟩
      case measure => simp [intOf]; omega
    · obtain rfl : k = t.size := by omega
      revert wr
      intro w5 hb hown
      have hcut := conv_cut (m := txtLen t) (cap' := c) hown (by have := HN.out; omega)
      rw [sgL_take t _ _ (by have := HN.out; omega)] at hcut
      go_wp2
      go_loopw [6] (fun n wr => ∃ i : Nat, i ≤ tzI (bAt t (t.size - 1)) ∧ n = .int .i64 (8 * (t.size : Int) - (i : Int)) ∧ wr = w5)
        (fun n _ => (intOf n).toNat)
      case atStart => exact ⟨0, Nat.zero_le _, by simp, rfl⟩
      case round =>
        obtain ⟨i, hi, rfl, rfl⟩ := hrel
        have hi7 : (i : Int) ≤ 7 := by have := HN.out.2; omega
        have hend := tb_end t i (by omega) (by omega)
        have hcell : wr.cell? ⟨g, 8 * t.size - i - 1, none⟩ = some (.int .u8 (48 + tb t (8 * t.size - 1 - i))) := by
          rw [hown.cellAt _ (by omega), show 8 * t.size - i - 1 = 8 * t.size - 1 - i by omega]
          simp [sgL, show 8 * t.size - 1 - i < 8 * t.size by omega]
        by_cases hlt : i < tzI (bAt t (t.size - 1))
        · rw [hend, tzI_zero _ (by have := H1.out; omega) H1.out.2 i hlt] at hcell
          clear hend
          go_wp2
          go_roundw
          case rel => exact ⟨i + 1, by omega, by congr 1; omega, trivial⟩
          case measure => simp [intOf]; omega
        · obtain rfl : i = tzI (bAt t (t.size - 1)) := by omega
          rw [hend, tzI_one _ H1.out.1 H1.out.2] at hcell
          have HT : Hid (8 * t.size - tzI (bAt t (t.size - 1)) - 1 = txtLen t) := by
            show _ = _
            unfold txtLen; omega
          have hn5 : 8 * (t.size : Int) - (tzI (bAt t (t.size - 1)) : Int) - 1 ≤ 400000 := by have := HT.out; omega
          rw [← HT.out] at hcut
          have hcap : 8 * (t.size : Int) ≤ (c : Int) := by have := own_cap hown; omega
          clear hend hi
          go_wp2
          go_ret2
          exact ⟨by rw [← HT.out]; rfl, hb⟩

set_option maxHeartbeats 1600000 in
theorem specTxt_no (t : ByteArray) (w : World) (hm : (t.size : Int) ≤ 1048576) (h : txtNo t) :
    Calls Try.prog 14 #[.string t] w fun e w' => e = .returned (.tuple #[.string ⟨#[]⟩, .bool false]) ∧ Below w.heap.size w w' := by
  obtain ⟨i0, hi0, hz0, hz1, hz2⟩ := info_parts infoF
  have HH : Hid (txtNo t) := h
  clear h
  by_cases ha : t.size = 0
  · have hsz : ((t.size : Int) == 0) = true := by rw [beq_iff_eq]; omega
    clear ha
    go_enter Try.func14, Try.ntmps14
    go_wp2
    go_ret2
    exact ⟨rfl, Below.refl _ _⟩
  have hsz : ((t.size : Int) == 0) = false := by rw [beq_eq_false_iff_ne]; omega
  by_cases hb : 50001 < (t.size : Int)
  · clear ha
    go_enter Try.func14, Try.ntmps14
    go_wp2
    go_ret2
    exact ⟨rfl, Below.refl _ _⟩
  have hs0' : (1 : Int) ≤ (t.size : Int) := by omega
  have hs1 : (t.size : Int) ≤ 50001 := by omega
  clear ha hb
  have hlast : (t[t.size - 1].toNat : Int) = bAt t (t.size - 1) := bAt_eq t (t.size - 1) (by omega)
  by_cases hc : bAt t (t.size - 1) = 0
  · have hnz : ((t[t.size - 1].toNat : Int) == 0) = true := by rw [beq_iff_eq, hlast, hc]
    clear hlast hc
    go_enter Try.func14, Try.ntmps14
    go_wp2
    go_ret2
    exact ⟨rfl, Below.refl _ _⟩
  have hnz : ((t[t.size - 1].toNat : Int) == 0) = false := by rw [beq_eq_false_iff_ne, hlast]; exact hc
  have hd : 400000 < txtLen t := by
    rcases HH.out with h | h | h | h
    · omega
    · omega
    · exact absurd h hc
    · exact h
  have H1 : Hid (0 < bAt t (t.size - 1) ∧ bAt t (t.size - 1) ≤ 255) := by show _ ∧ _; have := bAt_bd t (t.size - 1); omega
  have HN : Hid (txtLen t = 8 * t.size - 1 - tzI (bAt t (t.size - 1)) ∧ tzI (bAt t (t.size - 1)) ≤ 7) := ⟨rfl, tzI_lt _⟩
  clear hlast hc HH
  go_enter Try.func14, Try.ntmps14
  go_wp2
  go_loopw [4, 5] (fun v i wr => ∃ (k g c : Nat), k ≤ t.size ∧ i = .int .i64 (k : Int) ∧ v = .slice (some ⟨g, 0, none⟩) (8 * k) c ∧ wr.ownsRow w.heap.size 5 1 v (8 * k) ((sgL t (8 * k)).map (Value.int .u8)) ∧ Below w.heap.size w wr)
    (fun _ i _ => t.size - (intOf i).toNat)
  case atStart => exact ⟨0, w.heap.size, 0, Nat.zero_le _, rfl, rfl, World.ownsRow_made w #[] 0 (Nat.le_refl _) (by unfold maxLen; omega) rfl, (Below.refl _ _).alloc (Nat.le_refl _) _⟩
  case round =>
    obtain ⟨k, g, c, hk, rfl, rfl, hown, hb⟩ := hrel
    by_cases hlt : k < t.size
    · have hX : (t[k].toNat : Int) = bAt t k := bAt_eq t k hlt
      have hbk := bAt_bd t k
      have hx1 : (t[k].toNat : Int) ≤ 255 := by omega
      have HX : Hid ((t[k].toNat : Int) = bAt t k) := hX
      clear hX hbk
      have hq : (k : Int) < (t.size : Int) := by omega
      have hfs : (strOfNums (fixL (t[k].toNat : Int) 8)).size = 8 := by rw [strOfNums_size, fixL_length]
      go_wp2_with (first
        | (go_at_call 20; refine (specFix (t[k].toNat : Int) 8 wr (by omega) (by omega) (by omega)).mono ?_; rintro e w1 ⟨rfl, hb1⟩; have hown1 := own_belowT hown hb1; have hs11 := hb1.size)
        | (at_builtin; refine Lib.wpList_append_own_string _ (by rfl) _ _ 29 9 (by rfl) w.heap.size 5 i0 Try.underlying29 Try.underlying9 hi0 hz0 hz1 hz2 _ (8 * k) _ (by rfl) hown1 _ (by rfl) (by rw [hfs]; unfold maxLen; omega) (by rw [hfs]; omega) (by have := hb.size; omega) ?_; intro v2 w2 hown2 hgrow2 hnil2))
      have hown3 : w2.ownsRow w.heap.size 5 1 v2 (8 * (k + 1)) ((sgL t (8 * (k + 1))).map (Value.int .u8)) := by
        rw [hfs] at hown2
        have hsc : Lib.strCells (strOfNums (fixL (t[k].toNat : Int) 8)) = (fixL (bAt t k) 8).map (Value.int .u8) := by
          rw [HX.out]; exact strCells_nums _ (fixL_signs _ _).bd
        rw [hsc] at hown2
        rw [show 8 * (k + 1) = 8 * k + 8 by omega, sgL_step, List.map_append]
        exact hown2
      have hb2 : Below w.heap.size w w2 := (hb.trans (hb1.mono hb.size)).grown hgrow2 (by have := hb.size; omega) (fun j hj => (hown.lt j hj).1)
      obtain ⟨g2, c2, rfl, _, _⟩ := hown3.form (by omega)
      go_roundw
      case rel => exact ⟨k + 1, g2, c2, by omega, by go_num, rfl, hown3, hb2⟩
      case measure => simp [intOf]; omega
    · obtain rfl : k = t.size := by omega
      revert wr
      intro w5 hb hown
      go_wp2
      go_loopw [6] (fun n wr => ∃ i : Nat, i ≤ tzI (bAt t (t.size - 1)) ∧ n = .int .i64 (8 * (t.size : Int) - (i : Int)) ∧ wr = w5)
        (fun n _ => (intOf n).toNat)
      case atStart => exact ⟨0, Nat.zero_le _, by simp, rfl⟩
      case round =>
        obtain ⟨i, hi, rfl, rfl⟩ := hrel
        have hi7 : (i : Int) ≤ 7 := by have := HN.out.2; omega
        have hend := tb_end t i (by omega) (by omega)
        have hcell : wr.cell? ⟨g, 8 * t.size - i - 1, none⟩ = some (.int .u8 (48 + tb t (8 * t.size - 1 - i))) := by
          rw [hown.cellAt _ (by omega), show 8 * t.size - i - 1 = 8 * t.size - 1 - i by omega]
          simp [sgL, show 8 * t.size - 1 - i < 8 * t.size by omega]
        by_cases hlt : i < tzI (bAt t (t.size - 1))
        · rw [hend, tzI_zero _ (by have := H1.out; omega) H1.out.2 i hlt] at hcell
          clear hend
          go_wp2
          go_roundw
          case rel => exact ⟨i + 1, by omega, by congr 1; omega, trivial⟩
          case measure => simp [intOf]; omega
        · obtain rfl : i = tzI (bAt t (t.size - 1)) := by omega
          rw [hend, tzI_one _ H1.out.1 H1.out.2] at hcell
          have HT : Hid (8 * t.size - tzI (bAt t (t.size - 1)) - 1 = txtLen t) := by
            show _ = _
            unfold txtLen; omega
          have hn5 : 400000 < 8 * (t.size : Int) - (tzI (bAt t (t.size - 1)) : Int) - 1 := by have := HT.out; omega
          have hcap : 8 * (t.size : Int) ≤ (c : Int) := by have := own_cap hown; omega
          clear hend hi
          go_wp2
          go_ret2
          exact ⟨rfl, hb⟩
end Go.Proofs.Ytdokmojifkggjaa
