/-
  Edges and guesses as functions of numbers: what is beside a square, and what is guessed of it.
-/
import Derived.Test.YtkakiollhhmmaaaAllKit
import Derived.Test.YtkakiollhhmmaaaPicMath
namespace Go.Proofs.Ytkakiollhhmmaaa
open Go.RowKit
set_option linter.unusedVariables false
set_option maxRecDepth 20000

/-- All are dots. -/
def dotsB (xs : List Int) : Bool := xs.all (fun x => decide (0 ≤ x) && decide (x ≤ 255))
theorem dotsB_iff {xs : List Int} : dotsB xs = true ↔ ∀ i, i < xs.length → 0 ≤ xs.getD i 0 ∧ xs.getD i 0 ≤ 255 := by
  unfold dotsB
  rw [List.all_eq_true]
  constructor
  · intro h i hi
    have := h (xs.getD i 0) (by rw [List.getD_eq_getElem?_getD, List.getElem?_eq_getElem hi]; exact List.getElem_mem hi)
    simpa using this
  · intro h x hx
    obtain ⟨i, hi, rfl⟩ := List.getElem_of_mem hx
    have := h i hi
    rw [List.getD_eq_getElem?_getD, List.getElem?_eq_getElem hi] at this
    simpa using this
theorem dotsB_no {xs : List Int} {k : Nat} (hk : k < xs.length) (h : ¬ (0 ≤ xs.getD k 0 ∧ xs.getD k 0 ≤ 255)) : dotsB xs = false := by
  rcases hb : dotsB xs with _ | _
  · rfl
  · exact absurd (dotsB_iff.1 hb k hk) h
/-- A right list beside a square. -/
def edgeB (xs : List Int) : Bool := (decide (xs.length = 0) || decide (xs.length = 8)) && dotsB xs
theorem edgeB_iff {xs : List Int} : edgeB xs = true ↔ (xs.length = 0 ∨ xs.length = 8) ∧ dotsB xs = true := by
  unfold edgeB; simp
theorem edgeB_no {xs : List Int} (h : ¬ (xs.length = 0 ∨ xs.length = 8)) : edgeB xs = false := by
  rcases hb : edgeB xs with _ | _
  · rfl
  · exact absurd (edgeB_iff.1 hb).1 h
theorem edgeB_no' {xs : List Int} (h : dotsB xs = false) : edgeB xs = false := by unfold edgeB; rw [h, Bool.and_false]
theorem edgeB_nil : edgeB [] = true := rfl
def edgesB (xs ys : List Int) (c : Int) : Bool := edgeB xs && edgeB ys && (decide (-1 ≤ c) && decide (c ≤ 255))
theorem edgesB_iff {xs ys : List Int} {c : Int} : edgesB xs ys c = true ↔ edgeB xs = true ∧ edgeB ys = true ∧ -1 ≤ c ∧ c ≤ 255 := by
  unfold edgesB; simp; constructor
  · rintro ⟨⟨a, b⟩, c, d⟩; exact ⟨a, b, c, d⟩
  · rintro ⟨a, b, c, d⟩; exact ⟨⟨a, b⟩, c, d⟩
/-- The i-th dot beside, eight times 128 where there are none. -/
def fillF (xs : List Int) (i : Nat) : Int := if xs.length = 0 then 128 else xs.getD i 0
theorem fillF_in {xs : List Int} (h : edgeB xs = true) {i : Nat} (hi : i < 8) : 0 ≤ fillF xs i ∧ fillF xs i ≤ 255 := by
  obtain ⟨h1, h2⟩ := edgeB_iff.1 h
  unfold fillF
  split
  · omega
  · exact dotsB_iff.1 h2 i (by omega)
def cornF (c : Int) : Int := if c = -1 then 128 else c
theorem cornF_in {c : Int} (h : -1 ≤ c ∧ c ≤ 255) : 0 ≤ cornF c ∧ cornF c ≤ 255 := by unfold cornF; split <;> omega
/-- The sum of the first k. -/
def dotSum (xs : List Int) (k : Nat) : Int := (xs.take k).sum
theorem sumN_zero (xs : List Int) : dotSum xs 0 = 0 := rfl
theorem sumN_succ (xs : List Int) (k : Nat) (h : k < xs.length) : dotSum xs (k + 1) = dotSum xs k + xs.getD k 0 := by
  unfold dotSum
  rw [List.take_succ_eq_append_getElem h, List.sum_append, List.getD_eq_getElem?_getD, List.getElem?_eq_getElem h]
  simp
theorem sumN_bd {xs : List Int} (h : dotsB xs = true) : ∀ k : Nat, k ≤ xs.length → 0 ≤ dotSum xs k ∧ dotSum xs k ≤ 255 * (k : Int)
  | 0, _ => by simp [dotSum]
  | k + 1, hk => by
    obtain ⟨a, b⟩ := sumN_bd h k (by omega)
    obtain ⟨c, d⟩ := dotsB_iff.1 h k (by omega)
    rw [sumN_succ xs k (by omega)]; omega
def midF (xs ys : List Int) : Int := if xs.length + ys.length = 0 then 128 else (dotSum xs xs.length + dotSum ys ys.length + ((xs.length + ys.length : Nat) : Int) / 2) / ((xs.length + ys.length : Nat) : Int)
theorem midF_in {xs ys : List Int} (hx : edgeB xs = true) (hy : edgeB ys = true) : 0 ≤ midF xs ys ∧ midF xs ys ≤ 255 := by
  obtain ⟨x1, x2⟩ := edgeB_iff.1 hx
  obtain ⟨y1, y2⟩ := edgeB_iff.1 hy
  obtain ⟨a0, a1⟩ := sumN_bd x2 xs.length (Nat.le_refl _)
  obtain ⟨b0, b1⟩ := sumN_bd y2 ys.length (Nat.le_refl _)
  unfold midF
  generalize dotSum xs xs.length = s at *
  generalize dotSum ys ys.length = t at *
  generalize xs.length = n at *
  generalize ys.length = m at *
  rcases x1 with rfl | rfl <;> rcases y1 with rfl | rfl <;> simp <;> omega
/-- The i-th dot of a guess. -/
def gueF (m : Nat) (xs ys : List Int) (c : Int) (i : Nat) : Int :=
  if m = 0 then midF xs ys else if m = 1 then fillF xs (i % 8) else if m = 2 then fillF ys (i / 8) else brF (fillF ys (i / 8) + fillF xs (i % 8) - cornF c) 0 255
theorem gueF_in {xs ys : List Int} {c : Int} (h : edgesB xs ys c = true) (m : Nat) {i : Nat} (hi : i < 64) : 0 ≤ gueF m xs ys c i ∧ gueF m xs ys c i ≤ 255 := by
  obtain ⟨hx, hy, _⟩ := edgesB_iff.1 h
  unfold gueF
  split
  · exact midF_in hx hy
  · split
    · exact fillF_in hx (by omega)
    · split
      · exact fillF_in hy (by omega)
      · exact brF_in (by omega)
def gueL (m : Int) (xs ys : List Int) (c : Int) : List Int := if edgesB xs ys c && (decide (0 ≤ m) && decide (m ≤ 3)) then listF 64 (gueF m.toNat xs ys c) else []
theorem gueL_of {xs ys : List Int} {c m : Int} (h : edgesB xs ys c = true) (h0 : 0 ≤ m) (h1 : m ≤ 3) : gueL m xs ys c = listF 64 (gueF m.toNat xs ys c) := by
  unfold gueL; rw [h, if_pos (by simp; omega)]
theorem gueL_bad {xs ys : List Int} {c m : Int} (h : edgesB xs ys c = false) : gueL m xs ys c = [] := by unfold gueL; rw [h]; rfl
theorem gueL_no {xs ys : List Int} {c m : Int} (h : ¬ (0 ≤ m ∧ m ≤ 3)) : gueL m xs ys c = [] := by
  unfold gueL; rw [if_neg (by simp; omega)]
theorem gueL_len (m : Int) (xs ys : List Int) (c : Int) : (gueL m xs ys c).length ≤ 64 := by
  unfold gueL; split
  · rw [listF_length]; omega
  · simp
/-- How far apart the first n numbers of two lists are. -/
def gapN (xs ys : List Int) : Nat → Int
  | 0 => 0
  | n + 1 => gapN xs ys n + absN (xs.getD n 0 - ys.getD n 0)
theorem gapN_bd {xs ys : List Int} {M : Int} (hx : ∀ i, i < 64 → -M ≤ xs.getD i 0 ∧ xs.getD i 0 ≤ M) (hy : ∀ i, i < 64 → -M ≤ ys.getD i 0 ∧ ys.getD i 0 ≤ M) : ∀ n : Nat, n ≤ 64 → 0 ≤ gapN xs ys n ∧ gapN xs ys n ≤ 2 * M * (n : Int)
  | 0, _ => by simp [gapN]
  | n + 1, h => by
    obtain ⟨a, b⟩ := gapN_bd hx hy n (by omega)
    obtain ⟨c, d⟩ := hx n (by omega)
    obtain ⟨e, f⟩ := hy n (by omega)
    rw [gapN]
    have k0 : 0 ≤ absN (xs.getD n 0 - ys.getD n 0) ∧ absN (xs.getD n 0 - ys.getD n 0) ≤ 2 * M := by unfold absN; split <;> omega
    have e1 : 2 * M * ((n + 1 : Nat) : Int) = 2 * M * (n : Int) + 2 * M := by rw [show ((n + 1 : Nat) : Int) = (n : Int) + 1 by omega, Int.mul_add, Int.mul_one]
    rw [e1]; omega
def gapB (xs : List Int) : Bool := decide (xs.length = 64) && inB 1000 xs
theorem gapB_iff {xs : List Int} : gapB xs = true ↔ xs.length = 64 ∧ inB 1000 xs = true := by unfold gapB; simp
def gapI (xs ys : List Int) : Int := if gapB xs && gapB ys then gapN xs ys 64 else -1
theorem gapI_of {xs ys : List Int} (hx : gapB xs = true) (hy : gapB ys = true) : gapI xs ys = gapN xs ys 64 := by unfold gapI; rw [hx, hy]; rfl
theorem gapI_bad {xs ys : List Int} (h : ¬ (gapB xs = true ∧ gapB ys = true)) : gapI xs ys = -1 := by
  unfold gapI; rw [if_neg (by simpa using h)]
theorem gapI_in {xs ys : List Int} (hx : gapB xs = true) (hy : gapB ys = true) : 0 ≤ gapI xs ys ∧ gapI xs ys ≤ 128000 := by
  rw [gapI_of hx hy]
  obtain ⟨a, b⟩ := gapB_iff.1 hx
  obtain ⟨c, d⟩ := gapB_iff.1 hy
  have := gapN_bd (M := 1000) (fun i hi => inB_iff.1 b i (by omega)) (fun i hi => inB_iff.1 d i (by omega)) 64 (Nat.le_refl _)
  omega
theorem gapB_dots {xs : List Int} (h : xs.length = 64) (hd : dotsB xs = true) : gapB xs = true := by
  refine gapB_iff.2 ⟨h, inB_iff.2 fun i hi => ?_⟩
  have := dotsB_iff.1 hd i hi
  omega
theorem gapB_gue {xs ys : List Int} {c m : Int} (h : edgesB xs ys c = true) (h0 : 0 ≤ m) (h1 : m ≤ 3) : gapB (gueL m xs ys c) = true := by
  rw [gueL_of h h0 h1]
  refine gapB_dots (listF_length _ _) (dotsB_iff.2 fun i hi => ?_)
  rw [listF_length] at hi
  rw [listF_get _ hi]
  exact gueF_in h _ hi
/-- What UeSize says of a mode. -/
def ueM (m : Nat) : Int := if m = 0 then 1 else if m = 3 then 5 else 3
/-- What a mode costs. -/
def costF (ws xs ys : List Int) (c : Int) (m : Nat) : Int := gapI ws (gueL (m : Int) xs ys c) + ueM m
theorem costF_in {ws xs ys : List Int} {c : Int} (h : edgesB xs ys c = true) (hw : gapB ws = true) {m : Nat} (hm : m < 4) : 1 ≤ costF ws xs ys c m ∧ costF ws xs ys c m ≤ 128005 := by
  have := gapI_in hw (gapB_gue h (m := (m : Int)) (by omega) (by omega))
  unfold costF ueM
  split
  · omega
  · split <;> omega
/-- The best one of the first k, and what it costs. -/
def bestF (C : Nat → Int) : Nat → Nat × Int
  | 0 => (0, -1)
  | k + 1 => if (bestF C k).2 = -1 ∨ C k < (bestF C k).2 then (k, C k) else bestF C k
theorem bestF_bd {C : Nat → Int} (h : ∀ i, i < 4 → 1 ≤ C i) : ∀ k : Nat, k ≤ 4 → (bestF C k).1 < 4 ∧ ((bestF C k).2 = -1 ∨ 1 ≤ (bestF C k).2)
  | 0, _ => by simp [bestF]
  | k + 1, hk => by
    obtain ⟨a, b⟩ := bestF_bd h k (by omega)
    rw [bestF]; split
    · exact ⟨by simp only; omega, .inr (h k (by omega))⟩
    · exact ⟨a, b⟩
/-- It is the first of those that cost least. -/
theorem bestF_least {C : Nat → Int} (h : ∀ i, i < 4 → 1 ≤ C i) : ∀ k : Nat, 1 ≤ k → k ≤ 4 → (bestF C k).1 < k ∧ (bestF C k).2 = C (bestF C k).1 ∧ (∀ i, i < k → C (bestF C k).1 ≤ C i) ∧ (∀ i, i < (bestF C k).1 → C (bestF C k).1 < C i)
  | 0, h0, _ => by omega
  | 1, _, _ => by
    have e : bestF C 1 = (0, C 0) := by simp [bestF]
    rw [e]
    exact ⟨by simp, rfl, fun i hi => by rw [show i = 0 by omega]; exact Int.le_refl _, fun i hi => by simp at hi⟩
  | k + 2, _, hk => by
    obtain ⟨a, b, c, d⟩ := bestF_least h (k + 1) (by omega) (by omega)
    have hp := h (bestF C (k + 1)).1 (by omega)
    rw [bestF]; split
    · rename_i hc
      have hlt : C (k + 1) < C (bestF C (k + 1)).1 := by
        rcases hc with hc | hc
        · omega
        · rw [b] at hc; exact hc
      refine ⟨by simp only; omega, rfl, fun i hi => ?_, fun i hi => ?_⟩
      · simp only
        rcases Nat.lt_succ_iff_lt_or_eq.1 hi with h1 | rfl
        · have := c i h1; omega
        · exact Int.le_refl _
      · simp only at hi ⊢
        have := c i hi; omega
    · rename_i hc
      rw [not_or] at hc
      refine ⟨by omega, b, fun i hi => ?_, d⟩
      rcases Nat.lt_succ_iff_lt_or_eq.1 hi with h1 | rfl
      · exact c i h1
      · have := hc.2; rw [b] at this; omega
/-- What BestGuess answers. -/
def wantB (ws : List Int) : Bool := decide (ws.length = 64) && dotsB ws
def bestM (ws xs ys : List Int) (c : Int) : Int × Int := if edgesB xs ys c && wantB ws then (((bestF (costF ws xs ys c) 4).1 : Int), (bestF (costF ws xs ys c) 4).2) else (0, -1)
end Go.Proofs.Ytkakiollhhmmaaa
