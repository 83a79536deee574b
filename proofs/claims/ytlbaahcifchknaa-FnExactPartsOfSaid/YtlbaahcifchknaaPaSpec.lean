/-
  The walk of spec.PartsOf: it answers the parts of the line, or none.
-/
import Derived.Test.YtlbaahcifchknaaPaRel
namespace Go.Proofs.Ytlbaahcifchknaa
open Go.RowKit

def PartsPost (w : World) (s : ByteArray) (e : Ending) (w' : World) : Prop :=
  ∃ v, e = .returned (.tuple #[v, .bool (partsOk s.data.toList)]) ∧ w'.ownsRow w.heap.size 9 1 v (partsR s.data.toList).length (strsOf (partsR s.data.toList)) ∧ Below w.heap.size w w'
theorem partsPost_no {w wr : World} {s : ByteArray} (h : partsOk s.data.toList = false) (hb : Below w.heap.size w wr) :
    PartsPost w s (.returned (.tuple #[.slice (some ⟨wr.heap.size, 0, none⟩) 0 0, .bool false])) (wr.alloc (.cells #[] 9)) := by
  refine ⟨_, by rw [h], ?_, hb.alloc hb.size _⟩
  rw [partsR_no h]
  exact World.ownsRow_made wr #[] 0 hb.size (by unfold maxLen; omega) rfl

set_option maxHeartbeats 1000000 in
theorem specParts_long (s : ByteArray) (w : World) (hs : 600 < s.size) (hm : s.size ≤ maxLen) :
    Calls Try.prog 11 #[.string s] w fun e w' => PartsPost w s e w' := by
  unfold maxLen at hm
  have hno : partsOk s.data.toList = false := partsOk_long hs
  have HP := partsPost_no hno (Below.refl w.heap.size w)
  clear hno
  go_enter Try.func11, Try.ntmps11
  go_wp2
  go_ret2
  exact HP

set_option maxHeartbeats 2000000 in
theorem specParts (s : ByteArray) (w : World) (hs : s.size ≤ 600) :
    Calls Try.prog 11 #[.string s] w fun e w' => PartsPost w s e w' := by
  obtain ⟨i0, hi0, hz0, hz1, hz2⟩ := info_parts info9
  go_enter Try.func11, Try.ntmps11
  go_wp2
  go_loopw [4, 5, 6] (fun v bg i wr => ∃ k b : Nat, k ≤ s.size + 1 ∧ i = .int .i64 k ∧ bg = .int .i64 b ∧ (k ≤ s.size → b + (cutTo (s.data.toList.take k)).cur.length = k) ∧ (∀ x ∈ s.data.toList.take k, okByte x = true) ∧
      wr.ownsRow w.heap.size 9 1 v (outsAt s.data.toList k).length (strsOf (outsAt s.data.toList k)) ∧ Below w.heap.size w wr)
    (fun _ _ i _ => s.size + 2 - (intOf i).toNat)
  case atStart => exact ⟨0, 0, Nat.zero_le _, rfl, rfl, fun _ => rfl, fun x hx => by simp at hx, World.ownsRow_made w #[] 0 (Nat.le_refl _) (by unfold maxLen; omega) rfl, (Below.refl _ _).alloc (Nat.le_refl _) _⟩
  case round =>
    obtain ⟨k, b, hk, rfl, rfl, hbk, hall, hown, hb⟩ := hrel
    have HB : Hid (k ≤ s.size → b + (cutTo (s.data.toList.take k)).cur.length = k) := hbk
    have HA : Hid (∀ x ∈ s.data.toList.take k, okByte x = true) := hall
    clear hbk hall
    by_cases hlt : k < s.size
    · have hbk := HB.out (by omega)
      have HB2 : Hid (b + (cutTo (s.data.toList.take k)).cur.length = k) := hbk
      have hble : b ≤ k := by omega
      clear hbk HB
      have hl : k < s.data.toList.length := hlt
      by_cases hc : okByte s[k] = false
      · have HP := partsPost_no (s := s) (partsOk_bad hl hc) hb
        have hcc : (s[k].toNat : Int) < 32 ∨ 126 < (s[k].toNat : Int) := by
          have := hc
          simp [okByte] at this
          omega
        clear hc
        rcases hcc with hcc | hcc
        · go_wp2
          go_ret2
          exact HP
        · have h32 : (32 : Int) ≤ (s[k].toNat : Int) := by omega
          go_wp2
          go_ret2
          exact HP
      have hok : okByte s[k] = true := by simpa using hc
      have hall' : ∀ x ∈ s.data.toList.take (k + 1), okByte x = true := by
        intro x hx
        rw [take_snocL _ k hl, List.mem_append] at hx
        rcases hx with hx | hx
        · exact HA.out x hx
        · simp at hx; subst hx; exact hok
      have HA2 : Hid (∀ x ∈ s.data.toList.take (k + 1), okByte x = true) := hall'
      have h32 : (32 : Int) ≤ (s[k].toNat : Int) := by simp [okByte] at hok; omega
      have h126 : (s[k].toNat : Int) ≤ 126 := by simp [okByte] at hok; omega
      clear hc hok hall' HA
      by_cases hx : s[k] = 32
      · have hne : ((s[k].toNat : Int) != 32) = false := by rw [hx]; rfl
        have HX : Hid (s.data.toList[k] = 32) := hx
        clear hx
        by_cases hcur : (cutTo (s.data.toList.take k)).cur = []
        · have hbeq : b = k := by have := HB2.out; rw [hcur] at this; simpa using this
          have R := outs_blank_none hl HX.out hcur
          have R2 := cur_blank hl HX.out
          have hcmp : ¬ (b : Int) < (k : Int) := by omega
          have HR : Hid (outsAt s.data.toList (k + 1) = outsAt s.data.toList k) := R
          have HR2 : Hid ((cutTo (s.data.toList.take (k + 1))).cur = []) := R2
          clear hbeq R R2 hcur
          go_wp2
          go_roundw
          case rel => exact ⟨k + 1, k + 1, by omega, by go_num, by go_num, fun _ => by rw [HR2.out]; rfl, HA2.out, by rw [HR.out]; exact hown, hb⟩
          case measure => simp [intOf]; omega
        · have hpos := List.length_pos_iff.2 hcur
          have hcmp : (b : Int) < (k : Int) := by have := HB2.out; omega
          have R := outs_blank_some hl HX.out hcur
          have R2 := cur_blank hl HX.out
          have R3 := extract_cur s b k (by omega) HB2.out
          have HR : Hid (outsAt s.data.toList (k + 1) = outsAt s.data.toList k ++ [(cutTo (s.data.toList.take k)).cur]) := R
          have HR2 : Hid ((cutTo (s.data.toList.take (k + 1))).cur = []) := R2
          have HR3 : Hid (s.extract b k = ⟨(cutTo (s.data.toList.take k)).cur.toArray⟩) := R3
          have holen := outsAt_len s.data.toList k
          have hl2 : s.data.toList.length = s.size := rfl
          have hol : (outsAt s.data.toList k).length ≤ 601 := by omega
          clear R R2 R3 hcur hpos holen hl2
          go_wp2_with (at_builtin; refine wpList_append_lies _ (by rfl) _ _ 25 (by rfl) w.heap.size 9 i0 (.string ByteArray.empty) 1 16 Try.underlying25 hi0 hz0 hz1 hz2 rfl (by omega) u4 (outsAt s.data.toList k).length _ (by rfl) (hown.alloc _) ⟨wr.heap.size, 0, none⟩ 1 1 [.string (s.extract b k)] (by rfl) (by rfl) (World.news_of_block (cs := #[.string (s.extract b k)]) (t := 9) (fr := (0, 0)) (heap_alloc_new wr _)) (by simp [Value.oneCell']) (by omega) (by unfold maxLen; omega) (by omega) (by have := hb.size; simp; omega) (wr.heap.size + 1) (by simp) ?_; intro gg cap w1 hown1 hgrow hat hlt2)
          have hb1 := below_app hb hown hgrow
          have hown2 := owns_snoc (x := (cutTo (s.data.toList.take k)).cur) (by rw [← HR3.out]; exact hown1) rfl
          clear hown1 hgrow hown hb
          go_roundw
          case rel => exact ⟨k + 1, k + 1, by omega, by go_num, by go_num, fun _ => by rw [HR2.out]; rfl, HA2.out, by rw [HR.out]; exact hown2, hb1⟩
          case measure => simp [intOf]; omega
      · have hne : ((s[k].toNat : Int) != 32) = true := by
          simp
          intro h
          apply hx
          apply UInt8.toNat_inj.1
          simpa using (show s[k].toNat = 32 by omega)
        have hx' : s.data.toList[k] ≠ 32 := hx
        have R := outs_other hl hx'
        have R2 := cur_other hl hx'
        have HR : Hid (outsAt s.data.toList (k + 1) = outsAt s.data.toList k) := R
        have HR2 : Hid ((cutTo (s.data.toList.take (k + 1))).cur.length = (cutTo (s.data.toList.take k)).cur.length + 1) := R2
        clear R R2 hx hx'
        go_wp2
        go_roundw
        case rel => exact ⟨k + 1, b, by omega, by go_num, rfl, fun _ => by rw [HR2.out]; have := HB2.out; omega, HA2.out, by rw [HR.out]; exact hown, hb⟩
        case measure => simp [intOf]; omega
    · by_cases hend : k = s.size + 1
      · subst hend
        have hall : ∀ x ∈ s.data.toList, okByte x = true := by
          have := HA.out
          rw [List.take_of_length_le (show s.data.toList.length ≤ s.size + 1 from Nat.le_succ _)] at this
          exact this
        have hpe := partsOk_end hs hall
        obtain ⟨len0, hlen0⟩ : ∃ n, n = (outsAt s.data.toList (s.size + 1)).length := ⟨_, rfl⟩
        obtain ⟨gv, cv, hv⟩ := owns_form hown
        subst hv
        clear HA HB hall
        by_cases h12 : (outsAt s.data.toList (s.size + 1)).length ≤ 12
        · have hyes : partsOk s.data.toList = true := by rw [hpe]; simpa using h12
          have HP : PartsPost w s (.returned (.tuple #[.slice gv (outsAt s.data.toList (s.size + 1)).length cv, .bool true])) wr := ⟨_, by rw [hyes], by rw [partsR_yes hyes]; exact hown, hb⟩
          clear hyes hpe hlen0
          go_wp2
          go_ret2
          exact HP
        · have hno : partsOk s.data.toList = false := by rw [hpe]; simpa using h12
          have HP := partsPost_no hno hb
          clear hno hpe hlen0
          go_wp2
          go_ret2
          exact HP
      · have hke : k = s.size := by omega
        subst hke
        have HB2 : Hid (b + (cutTo (s.data.toList.take s.size)).cur.length = s.size) := HB.out (Nat.le_refl _)
        have hall' : ∀ x ∈ s.data.toList.take (s.size + 1), okByte x = true := by
          have := HA.out
          rw [List.take_of_length_le (Nat.le_of_eq (show s.data.toList.length = s.size from rfl))] at this
          rw [List.take_of_length_le (show s.data.toList.length ≤ s.size + 1 from Nat.le_succ _)]
          exact this
        have HA2 : Hid (∀ x ∈ s.data.toList.take (s.size + 1), okByte x = true) := hall'
        clear hall' HA HB hend hlt
        by_cases hcur : (cutTo (s.data.toList.take s.size)).cur = []
        · have hbeq : b = s.size := by have := HB2.out; rw [hcur] at this; simpa using this
          have HR : Hid (outsAt s.data.toList (s.size + 1) = outsAt s.data.toList s.size) := outs_end_none (l := s.data.toList) hcur
          have hcmp : ¬ (b : Int) < (s.size : Int) := by omega
          clear hbeq hcur
          go_wp2
          go_roundw
          case rel => exact ⟨s.size + 1, s.size + 1, by omega, by go_num, by go_num, fun h => by omega, HA2.out, by rw [HR.out]; exact hown, hb⟩
          case measure => simp [intOf]
        · have hpos := List.length_pos_iff.2 hcur
          have hcmp : (b : Int) < (s.size : Int) := by have := HB2.out; omega
          have HR : Hid (outsAt s.data.toList (s.size + 1) = outsAt s.data.toList s.size ++ [(cutTo (s.data.toList.take s.size)).cur]) := outs_end_some (l := s.data.toList) hcur
          have HR3 : Hid (s.extract b s.size = ⟨(cutTo (s.data.toList.take s.size)).cur.toArray⟩) := extract_cur s b s.size (by omega) HB2.out
          have holen := outsAt_len s.data.toList s.size
          have hl2 : s.data.toList.length = s.size := rfl
          have hol : (outsAt s.data.toList s.size).length ≤ 601 := by omega
          clear hcur hpos holen hl2
          go_wp2_with (at_builtin; refine wpList_append_lies _ (by rfl) _ _ 25 (by rfl) w.heap.size 9 i0 (.string ByteArray.empty) 1 16 Try.underlying25 hi0 hz0 hz1 hz2 rfl (by omega) u4 (outsAt s.data.toList s.size).length _ (by rfl) (hown.alloc _) ⟨wr.heap.size, 0, none⟩ 1 1 [.string (s.extract b s.size)] (by rfl) (by rfl) (World.news_of_block (cs := #[.string (s.extract b s.size)]) (t := 9) (fr := (0, 0)) (heap_alloc_new wr _)) (by simp [Value.oneCell']) (by omega) (by unfold maxLen; omega) (by omega) (by have := hb.size; simp; omega) (wr.heap.size + 1) (by simp) ?_; intro gg cap w1 hown1 hgrow hat hlt2)
          have hb1 := below_app hb hown hgrow
          have hown2 := owns_snoc (x := (cutTo (s.data.toList.take s.size)).cur) (by rw [← HR3.out]; exact hown1) rfl
          clear hown1 hgrow hown hb
          go_roundw
          case rel => exact ⟨s.size + 1, s.size + 1, by omega, by go_num, by go_num, fun h => by omega, HA2.out, by rw [HR.out]; exact hown2, hb1⟩
          case measure => simp [intOf]
end Go.Proofs.Ytlbaahcifchknaa
