/-
  Plain facts on bits in bytes, the highest first.
-/
import Derived.WalkKit
namespace Go.Proofs.Ytdokmojifkggjaa
open Go.RowKit
set_option linter.unusedVariables false
set_option maxRecDepth 20000

abbrev Bits (b : Nat → Int) : Prop := ∀ j, b j = 0 ∨ b j = 1
/-- The byte of the eight bits from 8 i on. -/
def oct (b : Nat → Int) (i : Nat) : Int := 128 * b (8 * i) + 64 * b (8 * i + 1) + 32 * b (8 * i + 2) + 16 * b (8 * i + 3) + 8 * b (8 * i + 4) + 4 * b (8 * i + 5) + 2 * b (8 * i + 6) + b (8 * i + 7)
/-- The first k bits; 0 behind them. -/
def cutB (b : Nat → Int) (k j : Nat) : Int := if j < k then b j else 0
theorem cutB_bits {b : Nat → Int} (h : Bits b) (k : Nat) : Bits (cutB b k) := fun j => by
  unfold cutB; split
  · exact h j
  · exact .inl rfl
theorem Bits.bd {b : Nat → Int} (h : Bits b) (j : Nat) : 0 ≤ b j ∧ b j ≤ 1 := by have := h j; omega
theorem oct_bd {b : Nat → Int} (h : Bits b) (i : Nat) : 0 ≤ oct b i ∧ oct b i ≤ 255 := by
  have h0 := h.bd (8 * i); have h1 := h.bd (8 * i + 1); have h2 := h.bd (8 * i + 2); have h3 := h.bd (8 * i + 3)
  have h4 := h.bd (8 * i + 4); have h5 := h.bd (8 * i + 5); have h6 := h.bd (8 * i + 6); have h7 := h.bd (8 * i + 7)
  unfold oct; omega
theorem oct_cut_zero (b : Nat → Int) (i : Nat) : oct (cutB b 0) i = 0 := by simp [oct, cutB]
theorem oct_cut_same (b : Nat → Int) (k i : Nat) (h : i ≠ k / 8) : oct (cutB b (k + 1)) i = oct (cutB b k) i := by
  have e : ∀ j, j < 8 → cutB b (k + 1) (8 * i + j) = cutB b k (8 * i + j) := fun j hj => by
    unfold cutB
    by_cases c : 8 * i + j < k
    · rw [if_pos c, if_pos (by omega)]
    · rw [if_neg c, if_neg (by omega)]
  unfold oct
  have e0 : cutB b (k + 1) (8 * i) = cutB b k (8 * i) := e 0 (by omega)
  rw [e0, e 1 (by omega), e 2 (by omega), e 3 (by omega), e 4 (by omega), e 5 (by omega), e 6 (by omega), e 7 (by omega)]
theorem oct_cut_step (b : Nat → Int) (q r : Nat) (hr : r < 8) : oct (cutB b (8 * q + r + 1)) q = oct (cutB b (8 * q + r)) q + b (8 * q + r) * 2 ^ (7 - r) := by
  have hc : r = 0 ∨ r = 1 ∨ r = 2 ∨ r = 3 ∨ r = 4 ∨ r = 5 ∨ r = 6 ∨ r = 7 := by omega
  rcases hc with rfl | rfl | rfl | rfl | rfl | rfl | rfl | rfl <;> simp [oct, cutB, Nat.add_assoc] <;> omega
theorem oct_cut_low (b : Nat → Int) (q r : Nat) (hr : r < 8) : oct (cutB b (8 * q + r)) q % 2 ^ (8 - r) = 0 := by
  have hc : r = 0 ∨ r = 1 ∨ r = 2 ∨ r = 3 ∨ r = 4 ∨ r = 5 ∨ r = 6 ∨ r = 7 := by omega
  rcases hc with rfl | rfl | rfl | rfl | rfl | rfl | rfl | rfl <;> simp [oct, cutB] <;> omega
/-- To put a bit behind the last one by 'or' is to add it. -/
theorem or_put (x y : Int) (r : Nat) (hr : r < 8) (h0 : 0 ≤ x) (h1 : x ≤ 255) (hy : y = 0 ∨ y = 1) (hl : x % 2 ^ (8 - r) = 0) : bits BinOp.or IntKind.u8 x (y * 2 ^ (7 - r)) = x + y * 2 ^ (7 - r) := by
  obtain ⟨n, rfl⟩ := Int.eq_ofNat_of_zero_le h0
  have key : ∀ n : Fin 256, ∀ r : Fin 8, ∀ y : Fin 2, ((n.val : Int) % 2 ^ (8 - r.val) = 0) → bits BinOp.or IntKind.u8 (n.val : Int) ((y.val : Int) * 2 ^ (7 - r.val)) = (n.val : Int) + (y.val : Int) * 2 ^ (7 - r.val) := by decide +kernel
  rcases hy with rfl | rfl
  · exact key ⟨n, by omega⟩ ⟨r, hr⟩ 0 hl
  · exact key ⟨n, by omega⟩ ⟨r, hr⟩ 1 hl
theorem bit_of (b : Nat → Int) (hb : Bits b) (q r : Nat) (hr : r < 8) : oct b q / 2 ^ (7 - r) % 2 = b (8 * q + r) := by
  have h0 := hb.bd (8 * q); have h1 := hb.bd (8 * q + 1); have h2 := hb.bd (8 * q + 2); have h3 := hb.bd (8 * q + 3)
  have h4 := hb.bd (8 * q + 4); have h5 := hb.bd (8 * q + 5); have h6 := hb.bd (8 * q + 6); have h7 := hb.bd (8 * q + 7)
  have hc : r = 0 ∨ r = 1 ∨ r = 2 ∨ r = 3 ∨ r = 4 ∨ r = 5 ∨ r = 6 ∨ r = 7 := by omega
  rcases hc with rfl | rfl | rfl | rfl | rfl | rfl | rfl | rfl <;> simp [oct] <;> omega
end Go.Proofs.Ytdokmojifkggjaa
