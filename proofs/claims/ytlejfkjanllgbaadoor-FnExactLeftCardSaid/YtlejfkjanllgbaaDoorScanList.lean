/-
  A list in the order of a scan, and out of it; as far as it has come.
-/
import Derived.Test.YtlejfkjanllgbaaDoorScanMath
import Derived.Test.YtlejfkjanllgbaaDoorIntAll
namespace Go.Proofs.YtlejfkjanllgbaaDoor
open Go.RowKit
set_option linter.unusedVariables false
set_option maxRecDepth 20000

def back4 : List Nat := [0, 1, 5, 6, 2, 4, 7, 12, 3, 8, 11, 13, 9, 10, 14, 15]
def back8 : List Nat := [0, 1, 5, 6, 14, 15, 27, 28, 2, 4, 7, 13, 16, 26, 29, 42, 3, 8, 12, 17, 25, 30, 41, 43, 9, 11, 18, 24, 31, 40, 44, 53, 10, 19, 23, 32, 39, 45, 52, 54, 20, 22, 33, 38, 46, 51, 55, 60, 21, 34, 37, 47, 50, 56, 59, 61, 35, 36, 48, 49, 57, 58, 62, 63]
/-- As which one a place comes. -/
def bkF (sd p : Nat) : Nat := (if sd = 4 then back4 else back8).getD p 9999
theorem bk_facts {sd : Nat} (hs : SideOk sd) : (∀ k, k < sd * sd → bkF sd (scF sd k) = k) ∧ (∀ p, p < sd * sd → bkF sd p < sd * sd ∧ scF sd (bkF sd p) = p) := by
  rcases hs with rfl | rfl
  · refine ⟨by decide +kernel, by decide +kernel⟩
  · refine ⟨by decide +kernel, by decide +kernel⟩
theorem bk_far {sd : Nat} (hs : SideOk sd) {p : Nat} (hp : sd * sd ≤ p) : bkF sd p = 9999 := by
  rcases hs with rfl | rfl
  · unfold bkF
    rw [if_pos rfl, List.getD_eq_getElem?_getD, List.getElem?_eq_none (by simp [back4]; omega)]
    rfl
  · unfold bkF
    rw [if_neg (by omega), List.getD_eq_getElem?_getD, List.getElem?_eq_none (by simp [back8]; omega)]
    rfl
theorem bk_iff {sd : Nat} (hs : SideOk sd) {k p : Nat} (hk : k < sd * sd) (h : bkF sd p = k) : p = scF sd k := by
  by_cases hp : p < sd * sd
  · have := ((bk_facts hs).2 p hp).2
    rw [h] at this
    exact this.symm
  · rw [bk_far hs (by omega)] at h
    have : sd * sd ≤ 64 := by rcases hs with rfl | rfl <;> decide
    omega

/-- Whether a list has a scan. -/
def scOk (s : Int) (xs : List Int) : Bool := (decide (s = 4) || decide (s = 8)) && decide ((xs.length : Int) = s * s)
def scanL (s : Int) (xs : List Int) : List Int := if scOk s xs = true then listF xs.length (fun i => xs.getD (scF s.toNat i) 0) else []
def backL (s : Int) (xs : List Int) : List Int := if scOk s xs = true then listF xs.length (fun i => xs.getD (bkF s.toNat i) 0) else []
theorem scOk_of {s : Int} {xs : List Int} (h : scOk s xs = true) : SideOk s.toNat ∧ s = (s.toNat : Int) ∧ xs.length = s.toNat * s.toNat := by
  unfold scOk at h
  simp only [Bool.and_eq_true, Bool.or_eq_true, decide_eq_true_eq] at h
  obtain ⟨h1, h2⟩ := h
  rcases h1 with rfl | rfl
  · exact ⟨.inl rfl, rfl, by show xs.length = 16; omega⟩
  · exact ⟨.inr rfl, rfl, by show xs.length = 64; omega⟩
theorem scanL_le (s : Int) (xs : List Int) : (scanL s xs).length ≤ 64 := by
  unfold scanL
  split
  · rename_i h
    obtain ⟨h1, _, h3⟩ := scOk_of h
    rw [listF_length, h3]
    rcases h1 with h | h <;> rw [h] <;> decide
  · simp
theorem backL_le (s : Int) (xs : List Int) : (backL s xs).length ≤ 64 := by
  unfold backL
  split
  · rename_i h
    obtain ⟨h1, _, h3⟩ := scOk_of h
    rw [listF_length, h3]
    rcases h1 with h | h <;> rw [h] <;> decide
  · simp

/-- As far as it has come: k places. -/
def scUp (sd : Nat) (xs : List Int) (k i : Nat) : Int := if i < k then xs.getD (scF sd i) 0 else 0
def bkUp (sd : Nat) (xs : List Int) (k i : Nat) : Int := if bkF sd i < k then xs.getD (bkF sd i) 0 else 0
theorem scUp_set (sd : Nat) (xs : List Int) (n k : Nat) : ((listF n (scUp sd xs k)).map (Value.int .i64)).set k (.int .i64 (xs.getD (scF sd k) 0)) = (listF n (scUp sd xs (k + 1))).map (Value.int .i64) := by
  unfold listF
  rw [List.map_map, List.map_map]
  have e : Value.int .i64 (xs.getD (scF sd k) 0) = (Value.int .i64 ∘ scUp sd xs (k + 1)) k := by simp [scUp]
  rw [e]
  refine int_range_set n k _ _ (fun i hi => ?_)
  simp only [Function.comp, scUp]
  by_cases h : i < k
  · rw [if_pos h, if_pos (by omega)]
  · rw [if_neg h, if_neg (by omega)]
theorem bkUp_set {sd : Nat} (hs : SideOk sd) (xs : List Int) (n k : Nat) (hk : k < sd * sd) : ((listF n (bkUp sd xs k)).map (Value.int .i64)).set (scF sd k) (.int .i64 (xs.getD k 0)) = (listF n (bkUp sd xs (k + 1))).map (Value.int .i64) := by
  unfold listF
  rw [List.map_map, List.map_map]
  have e : Value.int .i64 (xs.getD k 0) = (Value.int .i64 ∘ bkUp sd xs (k + 1)) (scF sd k) := by simp [bkUp, (bk_facts hs).1 k hk]
  rw [e]
  refine int_range_set n (scF sd k) _ _ (fun i hi => ?_)
  simp only [Function.comp, bkUp]
  have hne : bkF sd i ≠ k := fun h => hi (bk_iff hs hk h)
  by_cases h : bkF sd i < k
  · rw [if_pos h, if_pos (by omega)]
  · rw [if_neg h, if_neg (by omega)]
theorem scUp_made (sd : Nat) (xs : List Int) (n : Nat) : (madeCells (Value.int .i64 0).cells (n * 1)).toList = (listF n (scUp sd xs 0)).map (Value.int .i64) := by
  rw [int_made]
  unfold listF
  rw [List.map_map]
  apply List.map_congr_left
  intro i _
  simp [scUp]
theorem bkUp_made (sd : Nat) (xs : List Int) (n : Nat) : (madeCells (Value.int .i64 0).cells (n * 1)).toList = (listF n (bkUp sd xs 0)).map (Value.int .i64) := by
  rw [int_made]
  unfold listF
  rw [List.map_map]
  apply List.map_congr_left
  intro i _
  simp [bkUp]
theorem scUp_full (sd : Nat) (xs : List Int) (n : Nat) : listF n (scUp sd xs n) = listF n (fun i => xs.getD (scF sd i) 0) := listF_congr fun i hi => by
  unfold scUp
  rw [if_pos hi]
theorem bkUp_full {sd : Nat} (hs : SideOk sd) (xs : List Int) : listF (sd * sd) (bkUp sd xs (sd * sd)) = listF (sd * sd) (fun i => xs.getD (bkF sd i) 0) := listF_congr fun i hi => by
  unfold bkUp
  rw [if_pos ((bk_facts hs).2 i hi).1]
end Go.Proofs.YtlejfkjanllgbaaDoor
