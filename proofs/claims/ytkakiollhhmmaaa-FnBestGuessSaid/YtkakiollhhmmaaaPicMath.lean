/-
  Pictures: which are right, a number brought between, the dot at a place, the dots of a block, how far apart two are.
-/
import Derived.Test.YtkakiollhhmmaaaRowMath
import Derived.Test.YtkakiollhhmmaaaAllKit
namespace Go.Proofs.Ytkakiollhhmmaaa
open Go.RowKit
set_option linter.unusedVariables false
set_option maxRecDepth 20000

def sidePB (n : Int) : Bool := decide (1 ≤ n) && decide (n ≤ 256)
theorem sidePB_iff {n : Int} : sidePB n = true ↔ 1 ≤ n ∧ n ≤ 256 := by simp [sidePB]
/-- A picture is right. -/
def picB (W H : Int) (s : ByteArray) : Bool := sidePB W && sidePB H && decide ((s.size : Int) = W * H)
theorem picB_iff {W H : Int} {s : ByteArray} : picB W H s = true ↔ (1 ≤ W ∧ W ≤ 256) ∧ (1 ≤ H ∧ H ≤ 256) ∧ (s.size : Int) = W * H := by
  simp [picB, sidePB, and_assoc]
/-- The product of two sides. -/
theorem sides_mul {W H : Int} (h1 : 1 ≤ W ∧ W ≤ 256) (h2 : 1 ≤ H ∧ H ≤ 256) : 1 ≤ W * H ∧ W * H ≤ 65536 := by
  have a : 1 * 1 ≤ W * H := Int.mul_le_mul h1.1 h2.1 (by decide) (by omega)
  have b : W * H ≤ 256 * 256 := Int.mul_le_mul h1.2 h2.2 (by omega) (by decide)
  omega
/-- A number brought into l .. m. -/
def brF (n l m : Int) : Int := max l (min n m)
theorem brF_in {n l m : Int} (h : l ≤ m) : l ≤ brF n l m ∧ brF n l m ≤ m := by unfold brF; omega
theorem brF_id {n l m : Int} (h : l ≤ n ∧ n ≤ m) : brF n l m = n := by unfold brF; omega
/-- Where the dot at x and y, brought into the picture, stands. -/
def placeF (W H x y : Int) : Int := brF y 0 (H - 1) * W + brF x 0 (W - 1)
theorem place_in {W H x y : Int} (h1 : 1 ≤ W) (h2 : 1 ≤ H) : 0 ≤ placeF W H x y ∧ placeF W H x y < W * H := by
  have a := brF_in (n := x) (l := 0) (m := W - 1) (by omega)
  have b := brF_in (n := y) (l := 0) (m := H - 1) (by omega)
  unfold placeF
  generalize brF x 0 (W - 1) = p at *
  generalize brF y 0 (H - 1) = q at *
  have c : 0 * W ≤ q * W := Int.mul_le_mul_of_nonneg_right b.1 (by omega)
  have d : q * W ≤ (H - 1) * W := Int.mul_le_mul_of_nonneg_right b.2 (by omega)
  rw [Int.sub_mul, Int.one_mul, Int.mul_comm H W] at d
  omega
/-- The dot at x and y, brought into the picture. -/
def dotF (W H : Int) (s : ByteArray) (x y : Int) : Int := bAt s (placeF W H x y).toNat
def dotO (W H : Int) (s : ByteArray) (x y : Int) : Int := if picB W H s = true then dotF W H s x y else -1
theorem bAt_in (s : ByteArray) (j : Nat) : 0 ≤ bAt s j ∧ bAt s j ≤ 255 := by
  unfold bAt
  have := (s.data.toList.getD j 0).toBitVec.isLt
  have e : (s.data.toList.getD j 0).toNat < 256 := (s.data.toList.getD j 0).toNat_lt
  omega
theorem dotF_in (W H : Int) (s : ByteArray) (x y : Int) : 0 ≤ dotF W H s x y ∧ dotF W H s x y ≤ 255 := bAt_in _ _
/-- The dots of a block, in rows of eight. -/
def blockF (W H : Int) (s : ByteArray) (x y : Int) (i : Nat) : Int := dotF W H s (x + ((i % 8 : Nat) : Int)) (y + ((i / 8 : Nat) : Int))
def startB (n : Int) : Bool := decide (-1000 ≤ n) && decide (n ≤ 1000)
def blockL (W H : Int) (s : ByteArray) (x y : Int) : List Int := if picB W H s && startB x && startB y then listF 64 (blockF W H s x y) else []
/-- How far apart the first n bytes of two texts are. -/
def absN (x : Int) : Int := if x < 0 then -x else x
def apartN (s t : ByteArray) : Nat → Int
  | 0 => 0
  | n + 1 => apartN s t n + absN (bAt s n - bAt t n)
theorem apartN_in (s t : ByteArray) (n : Nat) : 0 ≤ apartN s t n ∧ apartN s t n ≤ 255 * (n : Int) := by
  induction n with
  | zero => simp [apartN]
  | succ n ih =>
    have a := bAt_in s n
    have b := bAt_in t n
    simp only [apartN, absN]
    split <;> omega
def apartB (W H : Int) (s : ByteArray) (W' H' : Int) (s' : ByteArray) : Bool := picB W H s && picB W' H' s' && decide (W = W') && decide (H = H')
def apartF (W H : Int) (s : ByteArray) (W' H' : Int) (s' : ByteArray) : Int := if apartB W H s W' H' s' then apartN s s' s.size else -1
end Go.Proofs.Ytkakiollhhmmaaa
