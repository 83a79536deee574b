/-
  Plain facts on sets: the sides of a picture, its squares, when a set is right.
-/
import Derived.WalkKit
namespace Go.Proofs.YtnlbigjfnjcldaaGreat
set_option linter.unusedVariables false
set_option maxRecDepth 20000

def sumT (xs : List Int) (k : Nat) : Int := (xs.take k).sum
theorem sumT_zero (xs : List Int) : sumT xs 0 = 0 := rfl
theorem sumT_succ (xs : List Int) (k : Nat) (h : k < xs.length) : sumT xs (k + 1) = sumT xs k + xs.getD k 0 := by
  unfold sumT
  rw [List.take_succ_eq_append_getElem h, List.sum_append, List.getD_eq_getElem?_getD, List.getElem?_eq_getElem h]
  simp
/-- The first k numbers are sides. -/
def goodT (xs : List Int) (k : Nat) : Prop := ∀ i, i < k → 1 ≤ xs.getD i 0 ∧ xs.getD i 0 ≤ 8
theorem goodT_zero (xs : List Int) : goodT xs 0 := fun i h => by omega
theorem goodT_succ {xs : List Int} {k : Nat} (h : goodT xs k) (h1 : 1 ≤ xs.getD k 0) (h2 : xs.getD k 0 ≤ 8) : goodT xs (k + 1) := fun i hi => by
  rcases Nat.lt_succ_iff_lt_or_eq.1 hi with h3 | rfl
  · exact h i h3
  · exact ⟨h1, h2⟩
theorem sumT_bd (xs : List Int) : ∀ k : Nat, k ≤ xs.length → goodT xs k → (k : Int) ≤ sumT xs k ∧ sumT xs k ≤ 8 * (k : Int)
  | 0, _, _ => by simp [sumT]
  | k + 1, hk, hg => by
    obtain ⟨a, b⟩ := sumT_bd xs k (by omega) (fun i hi => hg i (by omega))
    obtain ⟨c, d⟩ := hg k (by omega)
    rw [sumT_succ xs k (by omega)]
    omega
def sideB (xs : List Int) : Bool := decide (xs.length ≤ 4) && (List.range xs.length).all (fun i => decide (1 ≤ xs.getD i 0) && decide (xs.getD i 0 ≤ 8))
theorem sideB_true {xs : List Int} (h : sideB xs = true) : xs.length ≤ 4 ∧ goodT xs xs.length := by
  unfold sideB at h
  simp only [Bool.and_eq_true, decide_eq_true_eq, List.all_eq_true, List.mem_range] at h
  exact ⟨h.1, fun i hi => h.2 i hi⟩
theorem sideB_of {xs : List Int} (h : xs.length ≤ 4) (hg : goodT xs xs.length) : sideB xs = true := by
  unfold sideB
  simp only [Bool.and_eq_true, decide_eq_true_eq, List.all_eq_true, List.mem_range]
  exact ⟨h, fun i hi => hg i hi⟩
/-- How many squares a side has. -/
def sideI (xs : List Int) : Int := if sideB xs = true then sumT xs xs.length else 0
theorem sideI_big {xs : List Int} (h : 4 < xs.length) : sideI xs = 0 := by
  unfold sideI
  rw [if_neg]
  intro hb; have := (sideB_true hb).1; omega
theorem sideI_bad {xs : List Int} (k : Nat) (hk : k < xs.length) (h : xs.getD k 0 < 1 ∨ 8 < xs.getD k 0) : sideI xs = 0 := by
  unfold sideI
  rw [if_neg]
  intro hb; have := (sideB_true hb).2 k hk; omega
theorem sideI_good {xs : List Int} (h : xs.length ≤ 4) (hg : goodT xs xs.length) : sideI xs = sumT xs xs.length := by
  unfold sideI; rw [if_pos (sideB_of h hg)]
theorem sideI_bd (xs : List Int) : 0 ≤ sideI xs ∧ sideI xs ≤ 32 := by
  unfold sideI
  split
  · rename_i h
    obtain ⟨a, b⟩ := sideB_true h
    have := sumT_bd xs xs.length (Nat.le_refl _) b
    omega
  · omega
theorem sideI_pos {xs : List Int} (h : 1 ≤ sideI xs) : xs.length ≤ 4 ∧ goodT xs xs.length ∧ 1 ≤ xs.length := by
  unfold sideI at h
  split at h
  · rename_i hb
    obtain ⟨a, b⟩ := sideB_true hb
    refine ⟨a, b, ?_⟩
    have := sumT_bd xs xs.length (Nat.le_refl _) b
    rcases Nat.eq_zero_or_pos xs.length with h0 | h0
    · rw [h0] at h; simp [sumT] at h
    · exact h0
  · omega
theorem sideI_nil {xs : List Int} (h : xs.length < 1) : sideI xs = 0 := by
  have : xs = [] := List.eq_nil_of_length_eq_zero (by omega)
  subst this; rfl
/-- How many squares a level allows. -/
def lvlI (l : Int) : Int := if l = 1 then 16 else if l = 2 then 64 else if l = 3 then 256 else 0
/-- How many squares a set has. -/
def sqI (xs ys : List Int) : Int := sideI xs * sideI ys
theorem sqI_bd (xs ys : List Int) : 0 ≤ sqI xs ys ∧ sqI xs ys ≤ 1024 := by
  obtain ⟨a, b⟩ := sideI_bd xs
  obtain ⟨c, d⟩ := sideI_bd ys
  refine ⟨Int.mul_nonneg a c, ?_⟩
  have h : sideI xs * sideI ys ≤ 32 * 32 := Int.mul_le_mul b d c (by omega)
  unfold sqI; omega
theorem sqI_pos {xs ys : List Int} (h : 1 ≤ sqI xs ys) : 1 ≤ sideI xs ∧ 1 ≤ sideI ys := by
  obtain ⟨a, b⟩ := sideI_bd xs
  obtain ⟨c, d⟩ := sideI_bd ys
  unfold sqI at h
  constructor
  · rcases Int.lt_or_le (sideI xs) 1 with h0 | h0
    · have : sideI xs = 0 := by omega
      rw [this] at h; simp at h
    · exact h0
  · rcases Int.lt_or_le (sideI ys) 1 with h0 | h0
    · have : sideI ys = 0 := by omega
      rw [this] at h; simp at h
    · exact h0
/-- When a set is right. -/
def seqB (l b : Int) (xs ys : List Int) : Bool := decide (1 ≤ sqI xs ys) && decide (sqI xs ys ≤ lvlI l) && (decide (3 ≤ b) && decide (b ≤ 8))
theorem seqB_true {l b : Int} {xs ys : List Int} (h : seqB l b xs ys = true) : 1 ≤ sqI xs ys ∧ sqI xs ys ≤ lvlI l ∧ 3 ≤ b ∧ b ≤ 8 := by
  unfold seqB at h; simp at h; exact ⟨h.1.1, h.1.2, h.2.1, h.2.2⟩
theorem seqB_lvl {l b : Int} {xs ys : List Int} (h : seqB l b xs ys = true) : 1 ≤ l ∧ l ≤ 3 := by
  obtain ⟨a, b, _⟩ := seqB_true h
  unfold lvlI at b
  split at b
  · omega
  · split at b
    · omega
    · split at b <;> omega
def parB (q : Int) (g e : Bool) : Bool := decide (0 ≤ q) && decide (q ≤ 40) && !(g && e)
end Go.Proofs.YtnlbigjfnjcldaaGreat
