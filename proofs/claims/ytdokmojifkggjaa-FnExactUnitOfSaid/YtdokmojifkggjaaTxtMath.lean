/-
  Plain facts on a text that is read as a row: its bits, and how many bits 0 end its last byte.
-/
import Derived.Test.YtdokmojifkggjaaNumKit
namespace Go.Proofs.Ytdokmojifkggjaa
open Go.RowKit
set_option linter.unusedVariables false
set_option maxRecDepth 20000

/-- Bit j of a text, the highest of a byte first. -/
def tb (t : ByteArray) (j : Nat) : Int := bAt t (j / 8) / 2 ^ (7 - j % 8) % 2
theorem tb_bd (t : ByteArray) (j : Nat) : 0 ≤ tb t j ∧ tb t j ≤ 1 := by unfold tb; omega
theorem bAt_bd (t : ByteArray) (j : Nat) : 0 ≤ bAt t j ∧ bAt t j ≤ 255 := by
  unfold bAt
  have := UInt8.toNat_lt (t.data.toList.getD j 0)
  omega
def sgL (t : ByteArray) (m : Nat) : List Int := (List.range m).map fun j => 48 + tb t j
theorem sgL_length (t : ByteArray) (m : Nat) : (sgL t m).length = m := by simp [sgL]
theorem sgL_signs (t : ByteArray) (m : Nat) : Signs (sgL t m) := by
  intro x hx
  obtain ⟨i, _, rfl⟩ := List.mem_map.1 hx
  have := tb_bd t i
  omega
theorem sgL_step (t : ByteArray) (k : Nat) : sgL t (8 * k + 8) = sgL t (8 * k) ++ fixL (bAt t k) 8 := by
  unfold sgL fixL
  rw [List.range_add, List.map_append, List.map_map]
  congr 1
  apply List.map_congr_left
  intro i hi
  have hi' := List.mem_range.1 hi
  simp only [Function.comp, tb, fixAt]
  rw [show (8 * k + i) / 8 = k by omega, show (8 * k + i) % 8 = i by omega]
def tzI (x : Int) : Nat := if x % 2 ≠ 0 then 0 else if x % 4 ≠ 0 then 1 else if x % 8 ≠ 0 then 2 else if x % 16 ≠ 0 then 3 else if x % 32 ≠ 0 then 4 else if x % 64 ≠ 0 then 5 else if x % 128 ≠ 0 then 6 else 7
theorem tzI_lt (x : Int) : tzI x ≤ 7 := by
  unfold tzI
  repeat' split
  all_goals omega
theorem tzI_one (x : Int) (h0 : 0 < x) (h1 : x ≤ 255) : x / 2 ^ tzI x % 2 = 1 := by
  obtain ⟨n, rfl⟩ := Int.eq_ofNat_of_zero_le (Int.le_of_lt h0)
  have key : ∀ n : Fin 256, 0 < n.val → (n.val : Int) / 2 ^ tzI (n.val : Int) % 2 = 1 := by decide +kernel
  exact key ⟨n, by omega⟩ (by simp; omega)
theorem tzI_zero (x : Int) (h0 : 0 ≤ x) (h1 : x ≤ 255) (i : Nat) (hi : i < tzI x) : x / 2 ^ i % 2 = 0 := by
  obtain ⟨n, rfl⟩ := Int.eq_ofNat_of_zero_le h0
  have key : ∀ n : Fin 256, ∀ i : Fin 8, i.val < tzI (n.val : Int) → (n.val : Int) / 2 ^ i.val % 2 = 0 := by decide +kernel
  exact key ⟨n, by omega⟩ ⟨i, by have := tzI_lt (n : Int); omega⟩ hi
/-- The bits at the end of a text. -/
theorem tb_end (t : ByteArray) (i : Nat) (hi : i < 8) (ht : 0 < t.size) : tb t (8 * t.size - 1 - i) = bAt t (t.size - 1) / 2 ^ i % 2 := by
  unfold tb
  rw [show (8 * t.size - 1 - i) / 8 = t.size - 1 by omega, show 7 - (8 * t.size - 1 - i) % 8 = i by omega]
/-- How long the row of a text is, its last byte not being 0. -/
def txtLen (t : ByteArray) : Nat := 8 * t.size - 1 - tzI (bAt t (t.size - 1))
/-- When a text is no row. -/
abbrev txtNo (t : ByteArray) : Prop := t.size = 0 ∨ 50001 < t.size ∨ bAt t (t.size - 1) = 0 ∨ 400000 < txtLen t
theorem strCells_nums (zs : List Int) (h : ∀ x ∈ zs, 0 ≤ x ∧ x ≤ 255) : ((strOfNums zs).data.toList.map fun b => Value.int .u8 (b.toNat : Int)) = zs.map (Value.int .u8) := by
  have := nums_of zs h
  unfold nums at this
  conv => rhs; rw [← this]
  rw [List.map_map]
  rfl
end Go.Proofs.Ytdokmojifkggjaa
