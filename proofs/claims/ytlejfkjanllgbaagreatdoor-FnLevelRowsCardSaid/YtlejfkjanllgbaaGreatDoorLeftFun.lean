/-
  What is left over, as levels in three ways and back: as functions of numbers.
-/
import Derived.Test.YtlejfkjanllgbaaGreatDoorFEAll
import Derived.Test.YtlejfkjanllgbaaGreatDoorSetMath
import Derived.Test.YtlejfkjanllgbaaGreatDoorIntAll
import Derived.Test.YtlejfkjanllgbaaGreatDoorScanAll
namespace Go.Proofs.YtlejfkjanllgbaaGreatDoor
open Go.RowKit
set_option linter.unusedVariables false
set_option maxRecDepth 20000

/-- The place in a square of 64 that a place of a quarter is; the quarter that a place lies in; its place there. -/
def qIx (q i : Nat) : Nat := 8 * (q / 2 * 4 + i / 4) + q % 2 * 4 + i % 4
def inQ (p : Nat) : Nat := p / 32 * 2 + p % 8 / 4
def atQ (p : Nat) : Nat := p / 8 % 4 * 4 + p % 4
theorem qIx_lt {q i : Nat} (hq : q < 4) (hi : i < 16) : qIx q i < 64 := by unfold qIx; omega
theorem inQ_qIx {q i : Nat} (hq : q < 4) (hi : i < 16) : inQ (qIx q i) = q := by unfold inQ qIx; omega
theorem atQ_qIx {q i : Nat} (hq : q < 4) (hi : i < 16) : atQ (qIx q i) = i := by unfold atQ qIx; omega
theorem inQ_lt {p : Nat} (h : p < 64) : inQ p < 4 := by unfold inQ; omega
theorem atQ_lt (p : Nat) : atQ p < 16 := by unfold atQ; omega
theorem qIx_of {p : Nat} (h : p < 64) : qIx (inQ p) (atQ p) = p := by unfold inQ atQ qIx; omega

/-- The numbers of a quarter; its levels ahead of the scan; what comes back of one. -/
def qtrF (f : Nat → Int) (q i : Nat) : Int := f (qIx q i)
def smlF (qp : Int) (f : Nat → Int) (j : Nat) : Int := smallF (turnF sumR f j) qp (j : Int)
def smbF (qp : Int) (l : Nat → Int) (j : Nat) : Int := (turnF bakR (fun i => smallB (l (bkF 4 i)) qp (i : Int)) j + 32) / 64
def lrgF (qp : Int) (f : Nat → Int) (j : Nat) : Int := largeF (eightF f j) qp
def lrbF (qp : Int) (l : Nat → Int) (j : Nat) : Int := (eightF (fun i => largeB (l (bkF 8 i)) qp) j + 32) / 64

def levF (qp : Int) (g x : Bool) (f : Nat → Int) (k : Nat) : Int :=
  if x = true then f (scF 8 k) else if g = true then lrgF qp f (scF 8 k) else smlF qp (qtrF f (k / 16)) (scF 4 (k % 16))
def bakF (qp : Int) (g x : Bool) (l : Nat → Int) (p : Nat) : Int :=
  if x = true then l (bkF 8 p) else if g = true then lrbF qp l p else smbF qp (fun i => l (16 * inQ p + i)) (atQ p)

def lvB (M q : Int) (g x : Bool) (xs : List Int) : Bool := parB q g x && sqB M xs
theorem lvB_iff {M q : Int} {g x : Bool} {xs : List Int} : lvB M q g x xs = true ↔ parB q g x = true ∧ sqB M xs = true := by unfold lvB; simp
def levL (q : Int) (g x : Bool) (xs : List Int) : List Int := if lvB 255 q g x xs = true then listF 64 (levF q g x (fun i => xs.getD i 0)) else []
def lbkL (q : Int) (g x : Bool) (xs : List Int) : List Int := if lvB 5000 q g x xs = true then listF 64 (bakF q g x (fun i => xs.getD i 0)) else []
theorem levL_le (q : Int) (g x : Bool) (xs : List Int) : (levL q g x xs).length ≤ 64 := by
  unfold levL
  split
  · rw [listF_length]; omega
  · simp
theorem lbkL_le (q : Int) (g x : Bool) (xs : List Int) : (lbkL q g x xs).length ≤ 64 := by
  unfold lbkL
  split
  · rw [listF_length]; omega
  · simp
theorem levL_yes {q : Int} {g x : Bool} {xs : List Int} (h : lvB 255 q g x xs = true) : levL q g x xs = listF 64 (levF q g x (fun i => xs.getD i 0)) := if_pos h
theorem levL_no {q : Int} {g x : Bool} {xs : List Int} (h : lvB 255 q g x xs = false) : levL q g x xs = [] := if_neg (by rw [h]; decide)
theorem lbkL_yes {q : Int} {g x : Bool} {xs : List Int} (h : lvB 5000 q g x xs = true) : lbkL q g x xs = listF 64 (bakF q g x (fun i => xs.getD i 0)) := if_pos h
theorem lbkL_no {q : Int} {g x : Bool} {xs : List Int} (h : lvB 5000 q g x xs = false) : lbkL q g x xs = [] := if_neg (by rw [h]; decide)

/-- What comes back of a level is within bounds. -/
theorem smallB_in (l qp p : Int) : -9280000 ≤ smallB l qp p ∧ smallB l qp p ≤ 9280000 := by
  unfold smallB
  split
  · rename_i h
    have hs := scaleF_all qp p
    rcases Int.le_total 0 l with h0 | h0
    · have := mul_in h0 h.2 hs.1 hs.2
      omega
    · have := mul_in (a := -l) (by omega) (show -l ≤ 5000 by omega) hs.1 hs.2
      rw [Int.neg_mul] at this
      omega
  · omega
theorem largeB_in (l qp : Int) : -9280000 ≤ largeB l qp ∧ largeB l qp ≤ 9280000 := by
  unfold largeB
  split
  · rename_i h
    have hs := stepF_all qp
    rcases Int.le_total 0 l with h0 | h0
    · have := mul_in h0 h.2 hs.1 hs.2
      omega
    · have := mul_in (a := -l) (by omega) (show -l ≤ 5000 by omega) hs.1 hs.2
      rw [Int.neg_mul] at this
      omega
  · omega

/-- Exact levels come back whole. -/
theorem exact_back (q : Int) (f : Nat → Int) {p : Nat} (hp : p < 64) : bakF q false true (fun k => levF q false true f k) p = f p := by
  have hb := (bk_facts (.inr rfl : SideOk 8)).2 p hp
  unfold bakF
  rw [if_pos rfl]
  show levF q false true f (bkF 8 p) = f p
  unfold levF
  rw [if_pos rfl, hb.2]
/-- Large ones but for half a step. -/
theorem large_back {q : Int} {f : Nat → Int} (hf : ∀ i, i < 64 → -255 ≤ f i ∧ f i ≤ 255) (hq : 0 ≤ q ∧ q ≤ 40) :
    (∀ k, k < 64 → -5000 ≤ levF q true false f k ∧ levF q true false f k ≤ 5000) ∧
    ∀ p, p < 64 → -(stepF q / 2) ≤ bakF q true false (fun k => levF q true false f k) p - f p ∧ bakF q true false (fun k => levF q true false f k) p - f p ≤ stepF q / 2 := by
  obtain ⟨h1, h2⟩ := left_near hf hq
  refine ⟨fun k hk => ?_, fun p hp => ?_⟩
  · have := h1 _ (scF_lt (.inr rfl : SideOk 8) hk)
    unfold levF lrgF
    rw [if_neg (by decide), if_pos rfl]
    exact this
  · have e : ∀ i, i < 64 → largeB (levF q true false f (bkF 8 i)) q = largeB (largeF (eightF f i) q) q := fun i hi => by
      have hb := (bk_facts (.inr rfl : SideOk 8)).2 i hi
      unfold levF lrgF
      rw [if_neg (by decide), if_pos rfl, hb.2]
    have e2 : bakF q true false (fun k => levF q true false f k) p = (eightF (fun j => largeB (largeF (eightF f j) q) q) p + 32) / 64 := by
      unfold bakF lrbF
      rw [if_neg (by decide), if_pos rfl, show eightF (fun i => largeB (levF q true false f (bkF 8 i)) q) p = eightF (fun j => largeB (largeF (eightF f j) q) q) p from crossF_congr (crossF_congr e) p hp]
    rw [e2]
    exact h2 p hp
end Go.Proofs.YtlejfkjanllgbaaGreatDoor
