/-
  The walk of impl.BytesRow: the row of a text.
-/
import Derived.Test.YtdokmojifkggjaaDoorPackKit
import Derived.Test.YtdokmojifkggjaaDoorMSetMath
import Derived.Test.YtdokmojifkggjaaDoorTzKit
import Derived.Lib.BufferWrite
namespace Go.Proofs.YtdokmojifkggjaaDoor
open Go.RowKit
set_option linter.unusedVariables false
set_option maxRecDepth 20000

theorem Packed.kept {w w' : World} {g n : Nat} {f : Nat → Int} {row : Option Nat} (h : Packed w g f n) (hg : w.grownBy w' row) (hne : some g ≠ row) : Packed w' g f n :=
  h.of_heap (hg.block g h.lt hne)
theorem packed_copy (w : World) (t : ByteArray) (g : Nat) (h : Packed w g (fun _ => 0) 0) (ht : t.size ≤ 50001) :
    ∃ w', (∀ ty, (Builtin.copy_ #[22, 9] ty #[.slice (some ⟨g, 0, none⟩) 50001 50001, .string t]).run Tryd.prog w = .ok (.int .i64 t.size) w') ∧ Packed w' g (bAt t) 0 ∧ w.grownBy w' (some g) := by
  obtain ⟨cs, h1, h2, h3, h4⟩ := h
  refine ⟨_, fun ty => Lib.run_copy_row_string (P := Tryd.prog) w 22 9 ty 5 g 0 50001 50001 t cs 88 Tryd.underlying22 (by kernel_rfl) h1 ht (by omega), ⟨_, setRow_heap w g cs _ _ _ h1, ?_, fun i hi => ?_, ?_⟩, ⟨rfl, rfl, rfl, by simp, fun k _ hk => setRow_other w g k _ (fun e => hk (by rw [e]))⟩⟩
  · simp only [List.size_toArray, List.length_append, List.length_take, List.length_drop, Array.length_toList, Lib.byteCells_length]
    have : t.data.toList.length = t.size := rfl
    simp only [Array.length_toList] at this
    omega
  · rw [List.getElem?_toArray, List.take_zero, List.nil_append, Nat.zero_add]
    have hl : (Lib.byteCells t.data.toList).length = t.size := Lib.byteCells_length _
    by_cases hi' : i < t.size
    · rw [List.getElem?_append_left (by omega), List.getElem?_eq_getElem (by omega)]
      simp only [Lib.byteCells, List.getElem_map]
      rw [← bAt_eq t i hi']
      rfl
    · rw [List.getElem?_append_right (by omega), hl, List.getElem?_drop, show t.size + (i - t.size) = i by omega, Array.getElem?_toList, h3 i hi]
      congr 2
      unfold bAt
      rw [List.getD_eq_getElem?_getD, List.getElem?_eq_none (by have : t.data.toList.length = t.size := rfl; omega)]
      rfl
  · rw [List.getElem?_toArray, List.take_zero, List.nil_append, Nat.zero_add]
    have hl : (Lib.byteCells t.data.toList).length = t.size := Lib.byteCells_length _
    rw [List.getElem?_append_right (by omega), hl, List.getElem?_drop, show t.size + (50001 - t.size) = 50001 by omega, Array.getElem?_toList, h4]

def sgUp (t : ByteArray) (k i : Nat) : Int := if i < k then 48 + tb t i else 0
theorem sgUp_full (t : ByteArray) (m : Nat) : (List.range m).map (sgUp t m) = sgL t m := by
  unfold sgL; apply List.map_congr_left; intro i hi; simp [sgUp, List.mem_range.1 hi]
theorem sgUp_set (t : ByteArray) (m k : Nat) : (((List.range m).map (sgUp t k)).map (Value.int .u8)).set k (.int .u8 (48 + tb t k)) = ((List.range m).map (sgUp t (k + 1))).map (Value.int .u8) := by
  rw [List.map_map, List.map_map]
  have e : Value.int .u8 (48 + tb t k) = (Value.int .u8 ∘ sgUp t (k + 1)) k := by simp [sgUp]
  rw [e]
  refine range_set m k _ _ (fun i hi => ?_)
  simp only [Function.comp, sgUp]
  by_cases h : i < k
  · simp [h, Nat.lt_succ_of_lt h]
  · simp [h, show ¬ i < k + 1 by omega]
theorem sgUp_zero (t : ByteArray) (m : Nat) : (madeCells (Value.int .u8 0).cells (m * 1)).toList = ((List.range m).map (sgUp t 0)).map (Value.int .u8) := by
  rw [made_one _ _ rfl, List.map_map]; apply List.map_congr_left; intro i hi; simp [sgUp]

set_option maxHeartbeats 1600000 in
theorem implTxt (t : ByteArray) (w : World) (h : ¬ txtNo t) :
    Calls Tryd.prog 35 #[.string t] w fun e w' => e = .returned (.tuple #[.string (strOfNums (sgL t (txtLen t))), .bool true]) ∧ Below w.heap.size w w' := by
  obtain ⟨i0, hi0, hz0, hz1, hz2⟩ := info_parts infoF
  unfold txtNo at h
  have hs0 : 0 < t.size := by omega
  have hs1 : (t.size : Int) ≤ 50001 := by omega
  have hs0' : (1 : Int) ≤ (t.size : Int) := by omega
  have hn4 : (txtLen t : Int) ≤ 400000 := by omega
  have hne : bAt t (t.size - 1) ≠ 0 := by omega
  clear h
  have hbd := bAt_bd t (t.size - 1)
  have hlast : (t[t.size - 1].toNat : Int) = bAt t (t.size - 1) := bAt_eq t (t.size - 1) (by omega)
  have hl0 : 0 < (t[t.size - 1].toNat : Int) := by omega
  have hl1 : (t[t.size - 1].toNat : Int) ≤ 255 := by omega
  have hnz : ((t[t.size - 1].toNat : Int) == 0) = false := by simp; omega
  have HN : Hid (8 * (t.size : Int) - 1 - (tzI (t[t.size - 1].toNat : Int) : Int) = (txtLen t : Int)) := by
    show _ = _
    unfold txtLen
    rw [hlast]
    have := tzI_lt (bAt t (t.size - 1))
    omega
  have hz7 : (tzI (t[t.size - 1].toNat : Int) : Int) ≤ 7 := by have := tzI_lt (t[t.size - 1].toNat : Int); omega
  have hnlt : (txtLen t : Int) < 8 * (t.size : Int) := by have := HN.out; omega
  have hle : 8 * (t.size : Int) - 1 - (tzI (t[t.size - 1].toNat : Int) : Int) ≤ 400000 := by rw [HN.out]; exact hn4
  have hsz : ((t.size : Int) == 0) = false := by rw [beq_eq_false_iff_ne]; omega
  clear hlast hbd hne
  obtain ⟨l, hl, hz⟩ := zero_run
  have P0 : Packed (w.alloc (.cells l.toArray 88)) w.heap.size (fun _ => 0) 0 := packed_new w l hl
  obtain ⟨w1, hcp, P1, hg1⟩ := packed_copy _ t _ P0 (by omega)
  have hsl := slice_packed_all (w.alloc (.cells l.toArray 88)) w.heap.size
  have HB1 : Hid (Below w.heap.size w w1) := ((Below.refl _ _).alloc (Nat.le_refl _) _).grown hg1 (by simp) (fun j hj => by cases hj; exact Nat.le_refl _)
  have HP1 : Hid (Packed w1 w.heap.size (bAt t) 0) := P1
  clear P0 P1 hg1 hl
  go_enter Tryd.func35, Tryd.ntmps35
  go_wp2_with (first
    | (go_at_call 62; refine (tz_any _ _ hl0 hl1).mono ?_; rintro e w2 ⟨rfl, hw⟩; subst w2)
    | (at_make; refine wpList_make_full _ (by rfl) _ _ 22 (by rfl) w1.heap.size 5 i0 (.int .u8 0) 1 Tryd.underlying22 hi0 hz0 hz1 .i64 .i64 _ _ (txtLen t) (by rfl) (by rfl) HN.out HN.out (by rw [hz2]; omega) (by unfold maxLen; omega) (Nat.le_refl _) ?_; intro w3 hown0 hgrow0))
  have hs31 := hgrow0.size
  have hwl : w.heap.size < w1.heap.size := HP1.out.lt
  have hP3 : Packed w3 w.heap.size (bAt t) 0 := HP1.out.kept hgrow0 (by simp)
  have hb3 : Below w.heap.size w w3 := HB1.out.grown hgrow0 (Nat.le_of_lt hwl) (fun j hj => by cases hj)
  rw [sgUp_zero t (txtLen t)] at hown0
  clear hgrow0 hcp hsl hz HB1 HP1
  go_loopw [41] (fun i wr => ∃ k : Nat, k ≤ txtLen t ∧ i = .int .i64 (k : Int) ∧ wr.ownsRow w1.heap.size 5 1 (.slice (some ⟨w1.heap.size, 0, none⟩) (txtLen t) (txtLen t)) (txtLen t) (((List.range (txtLen t)).map (sgUp t k)).map (Value.int .u8)) ∧ Packed wr w.heap.size (bAt t) 0 ∧ Below w.heap.size w wr)
    (fun i _ => txtLen t - (intOf i).toNat)
  case atStart => exact ⟨0, Nat.zero_le _, rfl, hown0, hP3, hb3⟩
  case round =>
    obtain ⟨k, hk, rfl, hown, hP, hb⟩ := hrel
    clear hown0 hP3 hb3
    by_cases hlt : k < txtLen t
    · have hbk := bAt_bd t (k / 8)
      have htb := tb_bd t k
      have HT : Hid (bAt t (k / 8) / 2 ^ (7 - k % 8) % 2 = tb t k) := rfl
      have hc := hown.cellAt k (by omega)
      have hfz := hown.frozenAt k
      have hc' : wr.cell? ⟨w1.heap.size, k, none⟩ = some (.int .u8 (sgUp t k k)) := by rw [hc]; simp [hlt]
      have hst := hown.stored k (.int .u8 (48 + tb t k))
      have hos := hst.1
      rw [sgUp_set] at hos
      have hbs := hb.grown hst.2 hb.size (fun j hj => by cases hj; omega)
      have hPs := hP.kept hst.2 (by simp; omega)
      have hq : (k : Int) < (txtLen t : Int) := by omega
      clear hc hst
      go_wp2_with (go_at_call 63; refine (take_any w.heap.size 0 k _ wr hP (by omega) hbk.1 hbk.2).mono ?_; rintro e w5 ⟨rfl, hw⟩; subst w5; rw [HT.out])
      go_roundw
      case rel => exact ⟨k + 1, by omega, by go_num, hos, hPs, hbs⟩
      case measure => simp [intOf]; omega
    · obtain rfl : k = txtLen t := by omega
      rw [sgUp_full] at hown
      have hconv := convF hown
      go_wp2
      go_ret2
      exact ⟨rfl, hb⟩

set_option maxHeartbeats 1600000 in
theorem implTxt_no (t : ByteArray) (w : World) (hm : (t.size : Int) ≤ 1048576) (h : txtNo t) :
    Calls Tryd.prog 35 #[.string t] w fun e w' => e = .returned (.tuple #[.string ⟨#[]⟩, .bool false]) ∧ w' = w := by
  have HH : Hid (txtNo t) := h
  clear h
  by_cases ha : t.size = 0
  · have hsz : ((t.size : Int) == 0) = true := by rw [beq_iff_eq]; omega
    clear ha
    go_enter Tryd.func35, Tryd.ntmps35
    go_wp2
    go_ret2
    exact ⟨rfl, rfl⟩
  have hsz : ((t.size : Int) == 0) = false := by rw [beq_eq_false_iff_ne]; omega
  by_cases hb : 50001 < (t.size : Int)
  · clear ha
    go_enter Tryd.func35, Tryd.ntmps35
    go_wp2
    go_ret2
    exact ⟨rfl, rfl⟩
  have hs0 : (1 : Int) ≤ (t.size : Int) := by omega
  have hs1 : (t.size : Int) ≤ 50001 := by omega
  clear ha hb
  have hlast : (t[t.size - 1].toNat : Int) = bAt t (t.size - 1) := bAt_eq t (t.size - 1) (by omega)
  have hl1 : (t[t.size - 1].toNat : Int) ≤ 255 := by have := UInt8.toNat_lt t[t.size - 1]; omega
  by_cases hc : bAt t (t.size - 1) = 0
  · have hnz : ((t[t.size - 1].toNat : Int) == 0) = true := by rw [beq_iff_eq, hlast, hc]
    clear hlast hc
    go_enter Tryd.func35, Tryd.ntmps35
    go_wp2
    go_ret2
    exact ⟨rfl, rfl⟩
  have hl0 : 0 < (t[t.size - 1].toNat : Int) := by have := bAt_bd t (t.size - 1); omega
  have hnz : ((t[t.size - 1].toNat : Int) == 0) = false := by rw [beq_eq_false_iff_ne]; omega
  have hd : 400000 < txtLen t := by
    rcases HH.out with h | h | h | h
    · omega
    · omega
    · exact absurd h hc
    · exact h
  have hle : 400000 < 8 * (t.size : Int) - 1 - (tzI (t[t.size - 1].toNat : Int) : Int) := by
    unfold txtLen at hd
    rw [hlast]
    omega
  have hz7 : (tzI (t[t.size - 1].toNat : Int) : Int) ≤ 7 := by have := tzI_lt (t[t.size - 1].toNat : Int); omega
  clear hlast hc hd HH
  go_enter Tryd.func35, Tryd.ntmps35
  go_wp2_with (go_at_call 62; refine (tz_any _ _ hl0 hl1).mono ?_; rintro e w2 ⟨rfl, hw⟩; subst w2)
  go_ret2
  exact ⟨rfl, rfl⟩
end Go.Proofs.YtdokmojifkggjaaDoor
