/-
  The walks of spec.l01Long, spec.l03Ue and spec.l03Se: the row of a counted number.
-/
import Derived.Test.YtlejfkjanllgbaaGreatDoorCountMath
import Derived.Test.YtlejfkjanllgbaaGreatDoorInAny
import Derived.Test.YtlejfkjanllgbaaGreatDoorFoldSpec
namespace Go.Proofs.YtlejfkjanllgbaaGreatDoor
open Go.RowKit
set_option linter.unusedVariables false
set_option maxRecDepth 20000

/-- The cells when the first k places are filled with c. -/
def longUp (c : Int) (k i : Nat) : Int := if i < k then c else 0
theorem longUp_full (c : Int) (n : Nat) : (List.range n).map (longUp c n) = List.replicate n c := by
  rw [List.eq_replicate_iff]
  refine ⟨by simp, fun x hx => ?_⟩
  obtain ⟨i, hi, rfl⟩ := List.mem_map.1 hx
  simp [longUp, List.mem_range.1 hi]
theorem longUp_set (c : Int) (n k : Nat) : (((List.range n).map (longUp c k)).map (Value.int .u8)).set k (.int .u8 c) = ((List.range n).map (longUp c (k + 1))).map (Value.int .u8) := by
  rw [List.map_map, List.map_map]
  have e : Value.int .u8 c = (Value.int .u8 ∘ longUp c (k + 1)) k := by simp [longUp]
  rw [e]
  refine range_set n k _ _ (fun i hi => ?_)
  simp only [Function.comp, longUp]
  by_cases h : i < k
  · simp [h, Nat.lt_succ_of_lt h]
  · simp [h, show ¬ i < k + 1 by omega]
theorem longUp_zero (c : Int) (n : Nat) : (madeCells (Value.int .u8 0).cells (n * 1)).toList = ((List.range n).map (longUp c 0)).map (Value.int .u8) := by
  rw [made_one _ _ rfl, List.map_map]; apply List.map_congr_left; intro i hi; simp [longUp]

set_option maxHeartbeats 1000000 in
theorem specLong (n : Nat) (c : Int) (w : World) (hn : (n : Int) ≤ 1000000) :
    Calls Tryz.prog 101 #[.int .i64 n, .int .u8 c] w fun e w' => e = .returned (.string (strOfNums (List.replicate n c))) ∧ Below w.heap.size w w' := by
  obtain ⟨i0, hi0, hz0, hz1, hz2⟩ := info_parts infoF
  go_enter Tryz.func101, Tryz.ntmps101
  go_wp2_with (at_make; refine wpList_make_full _ (by rfl) _ _ 22 (by rfl) w.heap.size 5 i0 (.int .u8 0) 1 Tryz.underlying22 hi0 hz0 hz1 .i64 .i64 _ _ n (by rfl) (by rfl) (by rfl) (by rfl) (by rw [hz2]; omega) (by unfold maxLen; omega) (Nat.le_refl _) ?_; intro w1 hown0 hgrow0)
  have hb0 : Below w.heap.size w w1 := (Below.refl _ _).grown hgrow0 (Nat.le_refl _) (fun j hj => by cases hj)
  clear hgrow0
  rw [longUp_zero c n] at hown0
  go_loopw [6] (fun i wr => ∃ j : Nat, j ≤ n ∧ i = .int .i64 (j : Int) ∧ wr.ownsRow w.heap.size 5 1 (.slice (some ⟨w.heap.size, 0, none⟩) n n) n (((List.range n).map (longUp c j)).map (Value.int .u8)) ∧ Below w.heap.size w wr)
    (fun i _ => n - (intOf i).toNat)
  case atStart => exact ⟨0, Nat.zero_le _, rfl, hown0, hb0⟩
  case round =>
    obtain ⟨j, hj, rfl, hown, hb⟩ := hrel
    clear hown0 hb0
    by_cases hlt : j < n
    · have hq : (j : Int) < (n : Int) := by omega
      have hc := hown.cellAt j (by omega)
      have hfz := hown.frozenAt j
      have hc' : wr.cell? ⟨w.heap.size, j, none⟩ = some (.int .u8 (longUp c j j)) := by rw [hc]; simp [hlt]
      have hst := hown.stored j (.int .u8 c)
      clear hc
      have hbs := hb.grown hst.2 hb.size (fun j hj => by cases hj; exact Nat.le_refl _)
      have hos := hst.1
      rw [longUp_set] at hos
      go_wp2
      go_roundw
      case rel => exact ⟨j + 1, by omega, by go_num, hos, hbs⟩
      case measure => simp [intOf]; omega
    · obtain rfl : j = n := by omega
      rw [longUp_full] at hown
      have hconv := convF hown
      go_wp2
      go_ret
      exact ⟨rfl, hb⟩

theorem strOfNums_cons (x : Int) (l : List Int) : strOfNums [x] ++ strOfNums l = strOfNums (x :: l) := by
  apply ByteArray.ext
  apply Array.ext'
  rw [ByteArray.data_append, Array.toList_append, strOfNums_data, strOfNums_data, strOfNums_data]
  rfl

set_option maxHeartbeats 1000000 in
theorem specUe (n : Int) (w : World) (h0 : 0 ≤ n) (h1 : n ≤ 1000000) :
    Calls Tryz.prog 72 #[.int .i64 n] w fun e w' => e = .returned (.string (ueS n)) ∧ Below w.heap.size w w' := by
  obtain ⟨l1, l20, _, _⟩ := wid_pow (n + 1) (by omega) (by omega)
  have HH : Hid (∀ j, 0 < (n + 1) / 2 ^ j ↔ j < wid (n + 1)) := fun j => half_wid (n + 1) j (by omega) (by omega)
  have HJ : Hid (strOfNums (List.replicate (wid (n + 1) - 1) 48) ++ strOfNums (fixL (n + 1) (wid (n + 1))) = ueS n) := ueS_join n
  generalize wid (n + 1) = m at *
  go_enter Tryz.func72, Tryz.ntmps72
  go_wp2
  go_loopw [3, 4] (fun x s wr => ∃ j : Nat, j ≤ m ∧ x = .int .i64 ((n + 1) / 2 ^ j) ∧ s = .string (strOfNums (fixL (n + 1) j)) ∧ Below w.heap.size w wr)
    (fun x _ _ => (intOf x).toNat)
  case atStart => exact ⟨0, Nat.zero_le _, by simp, rfl, Below.refl _ _⟩
  case round =>
    obtain ⟨j, hj, rfl, rfl, hb⟩ := hrel
    obtain ⟨x, hx⟩ : ∃ x, (n + 1) / 2 ^ j = x := ⟨_, rfl⟩
    have hbd := div_pow_bd (n + 1) j (by omega)
    have HL := HH.out j
    rw [hx] at hbd HL ⊢
    obtain ⟨x0, x1⟩ := hbd
    by_cases hlt : 0 < x
    · have hjm : j + 1 ≤ m := by have := HL.1 hlt; omega
      have HX : Hid ((n + 1) / 2 ^ (j + 1) = x / 2) := by show _ = _; rw [← half_pow, hx]
      have HS : Hid (strOfNums [48 + x % 2] ++ strOfNums (fixL (n + 1) j) = strOfNums (fixL (n + 1) (j + 1))) := by
        show _ = _
        rw [fixL_succ, hx, strOfNums_cons]
      have hown : (wr.alloc (.cells #[.int .u8 (48 + x % 2)] 5)).ownsRow w.heap.size 5 1 (.slice (some ⟨wr.heap.size, 0, none⟩) 1 1) 1 ([48 + x % 2].map (Value.int .u8)) := World.ownsRow_lit wr #[.int .u8 (48 + x % 2)] 1 hb.size (by unfold maxLen; omega) rfl
      have hbA : Below w.heap.size w (wr.alloc (.cells #[.int .u8 (48 + x % 2)] 5)) := hb.alloc hb.size _
      have hconv := convF (zs := [48 + x % 2]) hown
      have hlim : ¬ 9223372036854775807 < (strOfNums [48 + x % 2]).size + (strOfNums (fixL (n + 1) j)).size := by
        rw [strOfNums_size, strOfNums_size, fixL_length, List.length_singleton]; omega
      have hl1 : x / 2 < x := by omega
      clear HL hown
      go_wp2
      go_roundw
      case rel => exact ⟨j + 1, hjm, by rw [HX.out], by rw [← HS.out], hbA⟩
      case measure => simp [intOf]; omega
    · have hjm : j = m := by
        have := HL.2
        by_cases c : j < m
        · exact absurd (this c) hlt
        · omega
      subst hjm
      clear HL
      obtain ⟨q, rfl⟩ : ∃ q, j = q + 1 := ⟨j - 1, by omega⟩
      have HL : Hid (Calls Tryz.prog 101 #[.int .i64 (q : Int), .int .u8 48] wr fun e w' => e = .returned (.string (strOfNums (List.replicate q 48))) ∧ Below wr.heap.size wr w') := specLong q 48 wr (by omega)
      have hsz : (strOfNums (fixL (n + 1) (q + 1))).size = q + 1 := by rw [strOfNums_size, fixL_length]
      have hlim : ¬ 9223372036854775807 < (strOfNums (List.replicate q 48)).size + (strOfNums (fixL (n + 1) (q + 1))).size := by
        rw [strOfNums_size, strOfNums_size, fixL_length, List.length_replicate]; omega
      go_wp2_with (go_at_call 101; refine HL.out.mono ?_; rintro e w2 ⟨rfl, hb2⟩)
      go_ret
      refine ⟨?_, hb.trans (hb2.mono hb.size)⟩
      rw [← HJ.out]
      rfl
end Go.Proofs.YtlejfkjanllgbaaGreatDoor
