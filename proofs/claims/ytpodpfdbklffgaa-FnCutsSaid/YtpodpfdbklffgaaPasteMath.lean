/-
  A picture put into another one: its dots, row by row and dot by dot.
-/
import Derived.Test.YtpodpfdbklffgaaCropMath
import Derived.Test.YtpodpfdbklffgaaNumKit
namespace Go.Proofs.Ytpodpfdbklffgaa
open Go.RowKit
set_option linter.unusedVariables false
set_option maxRecDepth 20000

/-- The dots when the first x dots of row k of the inner picture are put, over dots f. -/
def pasteC (W l t a : Int) (q : ByteArray) (f : Nat → Int) (k x : Nat) : Nat → Int := fun j => if rowA W l t k ≤ j ∧ j < rowA W l t k + x then bAt q (k * a.toNat + (j - rowA W l t k)) else f j
/-- The dots when the first k rows are put. -/
def pasteR (W l t a : Int) (s q : ByteArray) : Nat → Nat → Int
  | 0 => bAt s
  | k + 1 => pasteC W l t a q (pasteR W l t a s q k) k a.toNat
theorem pasteC_zero (W l t a : Int) (q : ByteArray) (f : Nat → Int) (k : Nat) : pasteC W l t a q f k 0 = f := by
  funext j
  unfold pasteC
  rw [if_neg (by omega)]
theorem pasteC_succ (W l t a : Int) (q : ByteArray) (f : Nat → Int) (k x : Nat) : (fun j => if j = rowA W l t k + x then bAt q (k * a.toNat + x) else pasteC W l t a q f k x j) = pasteC W l t a q f k (x + 1) := by
  funext j
  unfold pasteC
  by_cases h : j = rowA W l t k + x
  · rw [if_pos h, if_pos (by omega)]
    congr 1
    omega
  · rw [if_neg h]
    by_cases h2 : rowA W l t k ≤ j ∧ j < rowA W l t k + x
    · rw [if_pos h2, if_pos (by omega)]
    · rw [if_neg h2, if_neg (by omega)]
theorem pasteR_in (W l t a : Int) (s q : ByteArray) : ∀ k j, 0 ≤ pasteR W l t a s q k j ∧ pasteR W l t a s q k j ≤ 255
  | 0, j => bAt_in s j
  | k + 1, j => by
    unfold pasteR pasteC
    split
    · exact bAt_in q _
    · exact pasteR_in W l t a s q k j
theorem bAt_extract (q : ByteArray) (i m j : Nat) (h : i + m ≤ q.size) (hj : j < m) : bAt (q.extract i (i + m)) j = bAt q (i + j) := by
  unfold bAt
  have e : (q.extract i (i + m)).data.toList.getD j 0 = q.data.toList.getD (i + j) 0 := by
    have hs : q.data.toList.length = q.size := rfl
    rw [List.getD_eq_getElem?_getD, List.getD_eq_getElem?_getD, ByteArray.data_extract, Array.toList_extract, List.extract_eq_take_drop, List.getElem?_take, if_pos (by omega), List.getElem?_drop]
  rw [e]
/-- Row k of the inner picture, put whole. -/
theorem pasteC_row (W l t a : Int) (q : ByteArray) (f : Nat → Int) (k m : Nat) (ha : a.toNat = m) (h : k * m + m ≤ q.size) :
    (fun j => if rowA W l t k ≤ j ∧ j < rowA W l t k + (q.extract (k * m) (k * m + m)).size then bAt (q.extract (k * m) (k * m + m)) (j - rowA W l t k) else f j) = pasteC W l t a q f k a.toNat := by
  have hs : (q.extract (k * m) (k * m + m)).size = m := by rw [ByteArray.size_extract]; omega
  funext j
  unfold pasteC
  rw [hs, ha]
  by_cases h2 : rowA W l t k ≤ j ∧ j < rowA W l t k + m
  · rw [if_pos h2, if_pos h2, bAt_extract q _ m _ h (by omega)]
  · rw [if_neg h2, if_neg h2]
/-- The text of a picture with another one put into it. -/
def pasteS (W l t a b : Int) (s q : ByteArray) : ByteArray := strOfNums (listF s.size (pasteR W l t a s q b.toNat))
def pasteB (W H : Int) (s : ByteArray) (W' H' : Int) (q : ByteArray) (l t : Int) : Bool := picB W H s && picB W' H' q && inRB W H l t W' H'
/-- What Pasted answers. -/
def pasteV (W H : Int) (s : ByteArray) (W' H' : Int) (q : ByteArray) (l t : Int) : Value :=
  if pasteB W H s W' H' q l t then .tuple #[.agg #[.int .i64 W, .int .i64 H, .string (pasteS W l t W' H' s q)], .bool true] else .tuple #[.agg #[.int .i64 W, .int .i64 H, .string s], .bool false]
end Go.Proofs.Ytpodpfdbklffgaa
