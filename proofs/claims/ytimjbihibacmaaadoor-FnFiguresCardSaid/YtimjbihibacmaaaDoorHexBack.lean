/-
  Plain facts: the figures of a text are read back as that text.
-/
import Derived.Test.YtimjbihibacmaaaDoorHexMath
import Derived.Test.YtimjbihibacmaaaDoorUnMath
namespace Go.Proofs.YtimjbihibacmaaaDoor.hx
open Go.RowKit
set_option linter.unusedVariables false

theorem hexL_get : ∀ (l : List UInt8) (j : Nat), j < l.length → (hexL l).getD (2 * j) 0 = fig (((l.getD j 0).toNat : Int) / 16) ∧ (hexL l).getD (2 * j + 1) 0 = fig (((l.getD j 0).toNat : Int) % 16)
  | [], j, h => by simp at h
  | c :: l, 0, _ => by simp [hexL]
  | c :: l, j + 1, h => by
    have ih := hexL_get l j (by simpa using h)
    have e : hexL (c :: l) = fig ((c.toNat : Int) / 16) :: fig ((c.toNat : Int) % 16) :: hexL l := by simp [hexL]
    rw [e, show 2 * (j + 1) = 2 * j + 1 + 1 by omega]
    simpa using ih
theorem fig_bd (x : Int) (h0 : 0 ≤ x) (h1 : x ≤ 15) : 48 ≤ fig x ∧ fig x ≤ 102 := by unfold fig; split <;> omega
theorem val_fig (x : Int) (h0 : 0 ≤ x) (h1 : x ≤ 15) : valI (fig x) = x := by unfold valI fig; split <;> split <;> (try split) <;> omega
theorem byteAt_nums (zs : List Int) (j : Nat) (hj : j < zs.length) (h0 : 0 ≤ zs.getD j 0) (h1 : zs.getD j 0 ≤ 255) : byteAt (strOfNums zs) j = zs.getD j 0 := by
  unfold byteAt
  rw [strOfNums_data]
  have e : (zs.map fun n => UInt8.ofNat n.toNat).getD j 0 = UInt8.ofNat (zs.getD j 0).toNat := by
    simp [List.getD_eq_getElem?_getD, List.getElem?_eq_getElem hj]
  rw [e, UInt8.toNat_ofNat']
  omega
theorem strOfNums_toNat (s : ByteArray) : strOfNums (s.data.toList.map fun x => (x.toNat : Int)) = s := by
  apply ByteArray.ext
  apply Array.ext'
  rw [strOfNums_data, List.map_map]
  conv => rhs; rw [← List.map_id s.data.toList]
  apply List.map_congr_left
  intro x _
  simp
theorem un_hex (s : ByteArray) : unV (strOfNums (hexL s.data.toList)) = .tuple #[.string s, .bool true] := by
  have hlen : s.data.toList.length = s.size := rfl
  have hz : (strOfNums (hexL s.data.toList)).size = 2 * s.size := by rw [strOfNums_size, hexL_length, hlen]
  have hp : ∀ j, j < s.size → byteAt (strOfNums (hexL s.data.toList)) (2 * j) = fig (((s.data.toList.getD j 0).toNat : Int) / 16) ∧ byteAt (strOfNums (hexL s.data.toList)) (2 * j + 1) = fig (((s.data.toList.getD j 0).toNat : Int) % 16) := by
    intro j hj
    have hb : (((s.data.toList.getD j 0).toNat : Nat) : Int) < 256 := by have := UInt8.toNat_lt (s.data.toList.getD j 0); omega
    have hg := hexL_get s.data.toList j (by omega)
    have b1 := fig_bd (((s.data.toList.getD j 0).toNat : Int) / 16) (by omega) (by omega)
    have b2 := fig_bd (((s.data.toList.getD j 0).toNat : Int) % 16) (by omega) (by omega)
    have hl := hexL_length s.data.toList
    refine ⟨?_, ?_⟩
    · rw [byteAt_nums _ _ (by omega) (by rw [hg.1]; omega) (by rw [hg.1]; omega), hg.1]
    · rw [byteAt_nums _ _ (by omega) (by rw [hg.2]; omega) (by rw [hg.2]; omega), hg.2]
  have hv : ∀ j, j < s.size → valI (byteAt (strOfNums (hexL s.data.toList)) (2 * j)) = ((s.data.toList.getD j 0).toNat : Int) / 16 ∧ valI (byteAt (strOfNums (hexL s.data.toList)) (2 * j + 1)) = ((s.data.toList.getD j 0).toNat : Int) % 16 := by
    intro j hj
    have hb : (((s.data.toList.getD j 0).toNat : Nat) : Int) < 256 := by have := UInt8.toNat_lt (s.data.toList.getD j 0); omega
    rw [(hp j hj).1, (hp j hj).2, val_fig _ (by omega) (by omega), val_fig _ (by omega) (by omega)]
    exact ⟨rfl, rfl⟩
  rw [unV_good _ s.size hz.symm (fun j hj => by have := hv j hj; exact ⟨by rw [this.1]; omega, by rw [this.2]; omega⟩)]
  have e : unL (strOfNums (hexL s.data.toList)) s.size = s.data.toList.map fun x => (x.toNat : Int) := by
    apply List.ext_getElem
    · rw [unL_length, List.length_map]; exact hlen.symm
    · intro j h1 h2
      have hj : j < s.size := by rw [unL_length] at h1; exact h1
      have := hv j hj
      simp only [unL, List.getElem_map, List.getElem_range]
      unfold pairAt
      rw [this.1, this.2]
      have hd : s.data.toList.getD j 0 = s.data.toList[j]'(by omega) := by rw [List.getD_eq_getElem?_getD, List.getElem?_eq_getElem (by omega)]; rfl
      rw [hd]
      omega
  rw [e, strOfNums_toNat]
end Go.Proofs.YtimjbihibacmaaaDoor.hx
