/-
  Plain facts on decimal figures.
-/
import Derived.WalkKit
import Derived.Laws.BytesArg
import Derived.Lib.ItoaMem
import Derived.Lib.ItoaLen
namespace Go.Proofs.YtimjbihibacmaaaDoor
open Go.RowKit

/-- The figures of a number, none for nought. -/
def pre (u : Nat) : List UInt8 := if u = 0 then [] else Lib.decDigits u
theorem pre_step {u : Nat} (h : 0 < u) : pre u = pre (u / 10) ++ [UInt8.ofNat (48 + u % 10)] := by
  unfold pre
  rw [if_neg (by omega), Lib.decDigits]
  by_cases h10 : u < 10
  · rw [dif_pos h10, if_pos (by omega)]
    simp [Nat.mod_eq_of_lt h10]
  · rw [dif_neg h10, if_neg (by omega)]
theorem pre_pos {u : Nat} (h : 0 < u) : pre u = Lib.decDigits u := by unfold pre; rw [if_neg (by omega)]
theorem itoa_pos {u : Nat} (h : 0 < u) : Lib.itoa (u : Int) = pre u := by rw [pre_pos h, Lib.itoa_nonneg]
theorem itoa_below {u : Nat} (h : 0 < u) : Lib.itoa (-(u : Int)) = 45 :: pre u := by rw [pre_pos h, Lib.itoa_neg u h]
theorem itoa_zero : Lib.itoa 0 = [48] := by
  have := Lib.itoa_nonneg 0
  rw [Lib.decDigits_one (by decide)] at this
  exact this
theorem pre_len (u : Nat) (h : u ≤ 9223372036854775808) : (pre u).length ≤ 20 := by
  unfold pre
  split
  · simp
  · rw [Lib.decDigits_length]
    exact Lib.nDigits_le20 u (by omega)
def fig (x : Int) : Int := if x < 10 then 48 + x else 87 + x
theorem fig_str (u : Nat) (acc : List UInt8) : Value.string (strOfNums [fig ((u : Int) % 10)] ++ ⟨acc.toArray⟩) = .string ⟨(UInt8.ofNat (48 + u % 10) :: acc).toArray⟩ := by
  have h : fig ((u : Int) % 10) = 48 + (u : Int) % 10 := by unfold fig; rw [if_pos (by omega)]
  rw [h]
  congr 1
theorem neg_mod (u : Nat) : (-(u : Int)).tmod 10 = -((u : Int) % 10) := by
  rw [Int.neg_tmod, Int.tmod_eq_emod_of_nonneg (by omega)]
theorem neg_div (u : Nat) : (-(u : Int)).tdiv 10 = -((u : Int) / 10) := by
  rw [Int.neg_tdiv, Int.tdiv_eq_ediv_of_nonneg (by omega)]
end Go.Proofs.YtimjbihibacmaaaDoor
