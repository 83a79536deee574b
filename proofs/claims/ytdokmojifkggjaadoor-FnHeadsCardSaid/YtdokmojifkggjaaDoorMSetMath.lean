/-
  Plain facts on sets: the sides of a picture, its squares, when a set is right.
  Plain facts on the grid: strips, tiles, which tile has a dot, how many squares the tiles have together, the least level.
  Plain facts on numbers in signs: the signs of a number, the highest first.
  Plain facts on rows: when a text is a row of the signs 0 and 1.
  Plain facts on reading numbers out of a row.
  Plain facts on texts as lists of numbers, and on rows and numbers in rows.
  Plain facts on numbers with signs: how they are folded and opened.
  Plain facts on bits in bytes, the highest first.
  Plain facts on a row in bytes.
  Plain facts on a text that is read as a row: its bits, and how many bits 0 end its last byte.
  Plain facts: a row comes back from its bytes; unlike rows have unlike bytes.
-/
import Derived.WalkKit
import Derived.Laws.BytesArg
import Derived.Laws.OwnMore
namespace Go.Proofs.YtdokmojifkggjaaDoor
set_option linter.unusedVariables false
set_option maxRecDepth 20000

def sumT (xs : List Int) (k : Nat) : Int := (xs.take k).sum
theorem sumT_zero (xs : List Int) : sumT xs 0 = 0 := rfl
theorem sumT_succ (xs : List Int) (k : Nat) (h : k < xs.length) : sumT xs (k + 1) = sumT xs k + xs.getD k 0 := by
  unfold sumT
  rw [List.take_succ_eq_append_getElem h, List.sum_append, List.getD_eq_getElem?_getD, List.getElem?_eq_getElem h]
  simp
/-- The first k numbers are sides. -/
def goodT (xs : List Int) (k : Nat) : Prop := ∀ i, i < k → 1 ≤ xs.getD i 0 ∧ xs.getD i 0 ≤ 8
theorem goodT_zero (xs : List Int) : goodT xs 0 := fun i h => by omega
theorem goodT_succ {xs : List Int} {k : Nat} (h : goodT xs k) (h1 : 1 ≤ xs.getD k 0) (h2 : xs.getD k 0 ≤ 8) : goodT xs (k + 1) := fun i hi => by
  rcases Nat.lt_succ_iff_lt_or_eq.1 hi with h3 | rfl
  · exact h i h3
  · exact ⟨h1, h2⟩
theorem sumT_bd (xs : List Int) : ∀ k : Nat, k ≤ xs.length → goodT xs k → (k : Int) ≤ sumT xs k ∧ sumT xs k ≤ 8 * (k : Int)
  | 0, _, _ => by simp [sumT]
  | k + 1, hk, hg => by
    obtain ⟨a, b⟩ := sumT_bd xs k (by omega) (fun i hi => hg i (by omega))
    obtain ⟨c, d⟩ := hg k (by omega)
    rw [sumT_succ xs k (by omega)]
    omega
def sideB (xs : List Int) : Bool := decide (xs.length ≤ 4) && (List.range xs.length).all (fun i => decide (1 ≤ xs.getD i 0) && decide (xs.getD i 0 ≤ 8))
theorem sideB_true {xs : List Int} (h : sideB xs = true) : xs.length ≤ 4 ∧ goodT xs xs.length := by
  unfold sideB at h
  simp only [Bool.and_eq_true, decide_eq_true_eq, List.all_eq_true, List.mem_range] at h
  exact ⟨h.1, fun i hi => h.2 i hi⟩
theorem sideB_of {xs : List Int} (h : xs.length ≤ 4) (hg : goodT xs xs.length) : sideB xs = true := by
  unfold sideB
  simp only [Bool.and_eq_true, decide_eq_true_eq, List.all_eq_true, List.mem_range]
  exact ⟨h, fun i hi => hg i hi⟩
/-- How many squares a side has. -/
def sideI (xs : List Int) : Int := if sideB xs = true then sumT xs xs.length else 0
theorem sideI_big {xs : List Int} (h : 4 < xs.length) : sideI xs = 0 := by
  unfold sideI
  rw [if_neg]
  intro hb; have := (sideB_true hb).1; omega
theorem sideI_bad {xs : List Int} (k : Nat) (hk : k < xs.length) (h : xs.getD k 0 < 1 ∨ 8 < xs.getD k 0) : sideI xs = 0 := by
  unfold sideI
  rw [if_neg]
  intro hb; have := (sideB_true hb).2 k hk; omega
theorem sideI_good {xs : List Int} (h : xs.length ≤ 4) (hg : goodT xs xs.length) : sideI xs = sumT xs xs.length := by
  unfold sideI; rw [if_pos (sideB_of h hg)]
theorem sideI_bd (xs : List Int) : 0 ≤ sideI xs ∧ sideI xs ≤ 32 := by
  unfold sideI
  split
  · rename_i h
    obtain ⟨a, b⟩ := sideB_true h
    have := sumT_bd xs xs.length (Nat.le_refl _) b
    omega
  · omega
theorem sideI_pos {xs : List Int} (h : 1 ≤ sideI xs) : xs.length ≤ 4 ∧ goodT xs xs.length ∧ 1 ≤ xs.length := by
  unfold sideI at h
  split at h
  · rename_i hb
    obtain ⟨a, b⟩ := sideB_true hb
    refine ⟨a, b, ?_⟩
    have := sumT_bd xs xs.length (Nat.le_refl _) b
    rcases Nat.eq_zero_or_pos xs.length with h0 | h0
    · rw [h0] at h; simp [sumT] at h
    · exact h0
  · omega
theorem sideI_nil {xs : List Int} (h : xs.length < 1) : sideI xs = 0 := by
  have : xs = [] := List.eq_nil_of_length_eq_zero (by omega)
  subst this; rfl
/-- How many squares a level allows. -/
def lvlI (l : Int) : Int := if l = 1 then 16 else if l = 2 then 64 else if l = 3 then 256 else 0
/-- How many squares a set has. -/
def sqI (xs ys : List Int) : Int := sideI xs * sideI ys
theorem sqI_bd (xs ys : List Int) : 0 ≤ sqI xs ys ∧ sqI xs ys ≤ 1024 := by
  obtain ⟨a, b⟩ := sideI_bd xs
  obtain ⟨c, d⟩ := sideI_bd ys
  refine ⟨Int.mul_nonneg a c, ?_⟩
  have h : sideI xs * sideI ys ≤ 32 * 32 := Int.mul_le_mul b d c (by omega)
  unfold sqI; omega
theorem sqI_pos {xs ys : List Int} (h : 1 ≤ sqI xs ys) : 1 ≤ sideI xs ∧ 1 ≤ sideI ys := by
  obtain ⟨a, b⟩ := sideI_bd xs
  obtain ⟨c, d⟩ := sideI_bd ys
  unfold sqI at h
  constructor
  · rcases Int.lt_or_le (sideI xs) 1 with h0 | h0
    · have : sideI xs = 0 := by omega
      rw [this] at h; simp at h
    · exact h0
  · rcases Int.lt_or_le (sideI ys) 1 with h0 | h0
    · have : sideI ys = 0 := by omega
      rw [this] at h; simp at h
    · exact h0
/-- When a set is right. -/
def seqB (l b : Int) (xs ys : List Int) : Bool := decide (1 ≤ sqI xs ys) && decide (sqI xs ys ≤ lvlI l) && (decide (3 ≤ b) && decide (b ≤ 8))
theorem seqB_true {l b : Int} {xs ys : List Int} (h : seqB l b xs ys = true) : 1 ≤ sqI xs ys ∧ sqI xs ys ≤ lvlI l ∧ 3 ≤ b ∧ b ≤ 8 := by
  unfold seqB at h; simp at h; exact ⟨h.1.1, h.1.2, h.2.1, h.2.2⟩
theorem seqB_lvl {l b : Int} {xs ys : List Int} (h : seqB l b xs ys = true) : 1 ≤ l ∧ l ≤ 3 := by
  obtain ⟨a, b, _⟩ := seqB_true h
  unfold lvlI at b
  split at b
  · omega
  · split at b
    · omega
    · split at b <;> omega
def parB (q : Int) (g e : Bool) : Bool := decide (0 ≤ q) && decide (q ≤ 40) && !(g && e)
end Go.Proofs.YtdokmojifkggjaaDoor

namespace Go.Proofs.YtdokmojifkggjaaDoor
set_option linter.unusedVariables false
set_option maxRecDepth 20000

theorem sumT_mono {xs : List Int} (hg : goodT xs xs.length) : ∀ {i j : Nat}, i ≤ j → j ≤ xs.length → sumT xs i ≤ sumT xs j
  | i, 0, h, _ => by have : i = 0 := by omega
                     subst this; exact Int.le_refl _
  | i, j + 1, h, hj => by
    rcases Nat.lt_or_ge i (j + 1) with h1 | h1
    · have h2 := sumT_mono hg (i := i) (j := j) (by omega) (by omega)
      have h3 := (hg j (by omega)).1
      rw [sumT_succ xs j (by omega)]
      omega
    · have : i = j + 1 := by omega
      subst this; exact Int.le_refl _
/-- The strip i has the dot x. -/
def inS (xs : List Int) (i : Nat) (x : Int) : Bool := decide (8 * sumT xs i ≤ x) && decide (x < 8 * sumT xs i + 8 * xs.getD i 0)
theorem inS_iff {xs : List Int} {i : Nat} {x : Int} : inS xs i x = true ↔ 8 * sumT xs i ≤ x ∧ x < 8 * sumT xs i + 8 * xs.getD i 0 := by
  unfold inS; simp
theorem inS_not {xs : List Int} {i : Nat} {x : Int} (h : x < 8 * sumT xs i ∨ 8 * sumT xs i + 8 * xs.getD i 0 ≤ x) : inS xs i x = false := by
  rw [Bool.eq_false_iff]; intro h1; have := inS_iff.1 h1; omega
theorem inS_lt {xs : List Int} (hg : goodT xs xs.length) {i j : Nat} (hij : i < j) (hj : j < xs.length) {x : Int} (h1 : inS xs i x = true) (h2 : inS xs j x = true) : False := by
  have a := inS_iff.1 h1
  have b := inS_iff.1 h2
  have c := sumT_mono hg (i := i + 1) (j := j) (by omega) (by omega)
  rw [sumT_succ xs i (by omega)] at c
  omega
theorem inS_uniq {xs : List Int} (hg : goodT xs xs.length) {i j : Nat} (hi : i < xs.length) (hj : j < xs.length) {x : Int} (h1 : inS xs i x = true) (h2 : inS xs j x = true) : i = j := by
  rcases Nat.lt_trichotomy i j with h | h | h
  · exact (inS_lt hg h hj h1 h2).elim
  · exact h
  · exact (inS_lt hg h hi h2 h1).elim
theorem inS_some {xs : List Int} {x : Int} (h0 : 0 ≤ x) : ∀ k : Nat, k ≤ xs.length → x < 8 * sumT xs k → ∃ i, i < k ∧ inS xs i x = true
  | 0, _, h => by rw [sumT_zero] at h; omega
  | k + 1, hk, h => by
    by_cases c : x < 8 * sumT xs k
    · obtain ⟨i, h1, h2⟩ := inS_some h0 k (by omega) c
      exact ⟨i, by omega, h2⟩
    · rw [sumT_succ xs k (by omega)] at h
      exact ⟨k, by omega, inS_iff.2 (by omega)⟩
/-- The tile t has the dot. -/
def hasB (xs ys : List Int) (t : Nat) (x y : Int) : Bool := inS xs (t % xs.length) x && inS ys (t / xs.length) y
theorem hasB_iff {xs ys : List Int} {t : Nat} {x y : Int} : hasB xs ys t x y = true ↔ inS xs (t % xs.length) x = true ∧ inS ys (t / xs.length) y = true := by
  unfold hasB; simp
theorem div_lt' {t n m : Nat} (h : t < n * m) : t / n < m := Nat.div_lt_of_lt_mul h
theorem hasB_uniq {xs ys : List Int} (hx : goodT xs xs.length) (hy : goodT ys ys.length) {s t : Nat} (hn : 0 < xs.length) (hs : s < xs.length * ys.length) (ht : t < xs.length * ys.length) {x y : Int} (h1 : hasB xs ys s x y = true) (h2 : hasB xs ys t x y = true) : s = t := by
  obtain ⟨a, b⟩ := hasB_iff.1 h1
  obtain ⟨c, d⟩ := hasB_iff.1 h2
  have e1 := inS_uniq hx (Nat.mod_lt _ hn) (Nat.mod_lt _ hn) a c
  have e2 := inS_uniq hy (div_lt' hs) (div_lt' ht) b d
  rw [← Nat.div_add_mod s xs.length, ← Nat.div_add_mod t xs.length, e1, e2]
theorem hasB_at {xs ys : List Int} {c r : Nat} (hc : c < xs.length) {x y : Int} (h1 : inS xs c x = true) (h2 : inS ys r y = true) : hasB xs ys (r * xs.length + c) x y = true := by
  rw [hasB_iff]
  rw [show (r * xs.length + c) % xs.length = c by rw [Nat.add_comm, Nat.add_mul_mod_self_right]; exact Nat.mod_eq_of_lt hc]
  rw [show (r * xs.length + c) / xs.length = r by rw [Nat.add_comm, Nat.add_mul_div_right _ _ (by omega), Nat.div_eq_of_lt hc]; omega]
  exact ⟨h1, h2⟩
theorem tile_lt {c r n m : Nat} (hc : c < n) (hr : r < m) : r * n + c < n * m := by
  have : (r + 1) * n ≤ m * n := Nat.mul_le_mul_right n hr
  rw [Nat.add_mul, Nat.one_mul] at this
  rw [Nat.mul_comm n m]; omega
/-- The first of the tiles that has the dot; -1 when none has. -/
def tileI (xs ys : List Int) (x y : Int) : Int := match (List.range (xs.length * ys.length)).find? (fun t => hasB xs ys t x y) with | some t => (t : Int) | none => -1
theorem tileI_no {xs ys : List Int} {x y : Int} (h : ∀ t, t < xs.length * ys.length → hasB xs ys t x y = false) : tileI xs ys x y = -1 := by
  unfold tileI
  rw [show (List.range (xs.length * ys.length)).find? (fun t => hasB xs ys t x y) = none by
    rw [List.find?_eq_none]; intro t ht; rw [h t (List.mem_range.1 ht)]; decide]
theorem tileI_hit {xs ys : List Int} (hx : goodT xs xs.length) (hy : goodT ys ys.length) {x y : Int} {t : Nat} (ht : t < xs.length * ys.length) (h : hasB xs ys t x y = true) : tileI xs ys x y = (t : Int) := by
  have hn : 0 < xs.length := by
    rcases Nat.eq_zero_or_pos xs.length with h0 | h0
    · rw [h0] at ht; simp at ht
    · exact h0
  unfold tileI
  cases hf : (List.range (xs.length * ys.length)).find? (fun t => hasB xs ys t x y) with
  | none => rw [List.find?_eq_none] at hf; exact absurd h (hf t (List.mem_range.2 ht))
  | some s =>
    have h1 : hasB xs ys s x y = true := by simpa using List.find?_some hf
    have h2 : s < xs.length * ys.length := List.mem_range.1 (List.mem_of_find?_eq_some hf)
    rw [hasB_uniq hx hy hn h2 ht h1 h]
theorem tileI_iff {xs ys : List Int} (hx : goodT xs xs.length) (hy : goodT ys ys.length) {x y : Int} {t : Nat} (ht : t < xs.length * ys.length) : tileI xs ys x y = (t : Int) ↔ hasB xs ys t x y = true := by
  constructor
  · intro h
    by_cases hs : ∃ s, s < xs.length * ys.length ∧ hasB xs ys s x y = true
    · obtain ⟨s, h1, h2⟩ := hs
      rw [tileI_hit hx hy h1 h2] at h
      have : s = t := by omega
      subst this; exact h2
    · rw [tileI_no (fun s h1 => by
        rw [Bool.eq_false_iff]; exact fun h2 => hs ⟨s, h1, h2⟩)] at h
      omega
  · exact tileI_hit hx hy ht
/-- The squares of the first k tiles. -/
def sqT (xs ys : List Int) (k : Nat) : Int := ((List.range k).map (fun t => xs.getD (t % xs.length) 0 * ys.getD (t / xs.length) 0)).sum
theorem sqT_zero (xs ys : List Int) : sqT xs ys 0 = 0 := rfl
theorem sqT_succ (xs ys : List Int) (k : Nat) : sqT xs ys (k + 1) = sqT xs ys k + xs.getD (k % xs.length) 0 * ys.getD (k / xs.length) 0 := by
  unfold sqT; rw [List.range_succ, List.map_append, List.sum_append]; simp
theorem sqT_at (xs ys : List Int) (hn : 0 < xs.length) : ∀ k : Nat, k ≤ xs.length * ys.length → sqT xs ys k = sumT ys (k / xs.length) * sumT xs xs.length + sumT xs (k % xs.length) * ys.getD (k / xs.length) 0
  | 0, _ => by simp [sqT_zero, sumT_zero, Nat.zero_div, Nat.zero_mod]
  | k + 1, hk => by
    have hm : k % xs.length < xs.length := Nat.mod_lt _ hn
    have hd : k / xs.length < ys.length := div_lt' (by omega)
    have ih := sqT_at xs ys hn k (by omega)
    rw [sqT_succ, ih]
    have es := sumT_succ xs (k % xs.length) hm
    by_cases hl : k % xs.length + 1 < xs.length
    · have e1 : (k + 1) % xs.length = k % xs.length + 1 := by
        rw [Nat.add_mod, Nat.mod_eq_of_lt (a := 1) (by omega)]; exact Nat.mod_eq_of_lt hl
      have e2 : (k + 1) / xs.length = k / xs.length := by
        rw [Nat.succ_div_of_not_dvd]
        intro hdv; have := Nat.mod_eq_zero_of_dvd hdv; omega
      rw [e1, e2, es, Int.add_mul]; omega
    · have e0 : k % xs.length + 1 = xs.length := by omega
      have e1 : (k + 1) % xs.length = 0 := by
        rw [← Nat.mod_add_div k xs.length, show k % xs.length + xs.length * (k / xs.length) + 1 = (k % xs.length + 1) + xs.length * (k / xs.length) by omega, e0, Nat.add_mul_mod_self_left, Nat.mod_self]
      have e2 : (k + 1) / xs.length = k / xs.length + 1 := Nat.succ_div_of_dvd (Nat.dvd_of_mod_eq_zero e1)
      rw [e0] at es
      rw [e1, e2, sumT_zero, sumT_succ ys _ hd, es]
      generalize sumT ys (k / xs.length) = A
      generalize sumT xs (k % xs.length) = B
      generalize xs.getD (k % xs.length) 0 = C
      generalize ys.getD (k / xs.length) 0 = D
      rw [Int.zero_mul, Int.add_mul A D, Int.mul_add D, Int.mul_comm D B, Int.mul_comm D C]
      omega
theorem sqT_all (xs ys : List Int) (hn : 0 < xs.length) : sqT xs ys (xs.length * ys.length) = sumT xs xs.length * sumT ys ys.length := by
  rw [sqT_at xs ys hn _ (Nat.le_refl _), Nat.mul_mod_right, Nat.mul_div_cancel_left _ hn, sumT_zero, Int.zero_mul, Int.add_zero, Int.mul_comm]
theorem sqT_bd (xs ys : List Int) (hx : goodT xs xs.length) (hy : goodT ys ys.length) (hn : 0 < xs.length) : ∀ k : Nat, k ≤ xs.length * ys.length → 0 ≤ sqT xs ys k ∧ sqT xs ys k ≤ 64 * (k : Int)
  | 0, _ => by simp [sqT_zero]
  | k + 1, hk => by
    obtain ⟨a, b⟩ := sqT_bd xs ys hx hy hn k (by omega)
    obtain ⟨c, d⟩ := hx _ (Nat.mod_lt k hn)
    obtain ⟨e, f⟩ := hy _ (div_lt' (show k < xs.length * ys.length by omega))
    rw [sqT_succ]
    have g1 := Int.mul_nonneg (show 0 ≤ xs.getD (k % xs.length) 0 by omega) (show 0 ≤ ys.getD (k / xs.length) 0 by omega)
    have g2 := Int.mul_le_mul d f (by omega) (by omega : (0:Int) ≤ 8)
    omega
/-- How many tiles a set has. -/
def tilesI (l b : Int) (xs ys : List Int) : Int := if seqB l b xs ys = true then (xs.length : Int) * (ys.length : Int) else 0
/-- What a right set's lists are like. -/
theorem seq_sides {l b : Int} {xs ys : List Int} (h : seqB l b xs ys = true) : (goodT xs xs.length ∧ 1 ≤ xs.length ∧ xs.length ≤ 4) ∧ (goodT ys ys.length ∧ 1 ≤ ys.length ∧ ys.length ≤ 4) ∧ sideI xs = sumT xs xs.length ∧ sideI ys = sumT ys ys.length := by
  obtain ⟨a, b⟩ := sqI_pos (seqB_true h).1
  obtain ⟨a1, a2, a3⟩ := sideI_pos a
  obtain ⟨b1, b2, b3⟩ := sideI_pos b
  exact ⟨⟨a2, a3, a1⟩, ⟨b2, b3, b1⟩, sideI_good a1 a2, sideI_good b1 b2⟩
theorem mul_le4 {n m : Nat} (h1 : n ≤ 4) (h2 : m ≤ 4) : n * m ≤ 16 := Nat.le_trans (Nat.mul_le_mul h1 h2) (by decide)
/-- There is a tile of this number. -/
def okT (l b : Int) (xs ys : List Int) (t : Int) : Bool := decide (0 ≤ t) && decide (t < tilesI l b xs ys)
theorem okT_true {l b : Int} {xs ys : List Int} {t : Int} (h : okT l b xs ys t = true) : seqB l b xs ys = true ∧ ∃ k : Nat, t = (k : Int) ∧ k < xs.length * ys.length := by
  unfold okT tilesI at h
  simp only [Bool.and_eq_true, decide_eq_true_eq] at h
  obtain ⟨h0, h1⟩ := h
  split at h1
  · rename_i hs
    refine ⟨hs, t.toNat, by omega, ?_⟩
    have : ((t.toNat : Nat) : Int) < ((xs.length * ys.length : Nat) : Int) := by rw [Int.natCast_mul]; omega
    omega
  · omega
theorem okT_of {l b : Int} {xs ys : List Int} {k : Nat} (hs : seqB l b xs ys = true) (hk : k < xs.length * ys.length) : okT l b xs ys (k : Int) = true := by
  unfold okT tilesI
  rw [if_pos hs]
  have : (k : Int) < ((xs.length * ys.length : Nat) : Int) := by omega
  rw [Int.natCast_mul] at this
  simp; omega
/-- Where a tile is. -/
def rL (xs ys : List Int) (k : Nat) : Int := 8 * sumT xs (k % xs.length)
def rT (xs ys : List Int) (k : Nat) : Int := 8 * sumT ys (k / xs.length)
def rW (xs ys : List Int) (k : Nat) : Int := 8 * xs.getD (k % xs.length) 0
def rH (xs ys : List Int) (k : Nat) : Int := 8 * ys.getD (k / xs.length) 0
/-- The least level. -/
def lvlF (xs ys : List Int) : Int := if seqB 1 3 xs ys = true then 1 else if seqB 2 3 xs ys = true then 2 else if seqB 3 3 xs ys = true then 3 else 0
end Go.Proofs.YtdokmojifkggjaaDoor

namespace Go.Proofs.YtdokmojifkggjaaDoor
open Go.RowKit
set_option linter.unusedVariables false
set_option maxRecDepth 20000

def fixAt (n : Int) (w i : Nat) : Int := n / 2 ^ (w - 1 - i) % 2
def fixL (n : Int) (w : Nat) : List Int := (List.range w).map fun i => 48 + fixAt n w i
theorem fixL_length (n : Int) (w : Nat) : (fixL n w).length = w := by simp [fixL]
theorem fixAt_bd (n : Int) (w i : Nat) : 0 ≤ fixAt n w i ∧ fixAt n w i < 2 := by unfold fixAt; omega
theorem range_set {α : Type} (w k : Nat) (f g : Nat → α) (h : ∀ i, i ≠ k → f i = g i) : ((List.range w).map f).set k (g k) = (List.range w).map g := by
  apply List.ext_getElem?
  intro i
  rw [List.getElem?_set]
  by_cases hi : k = i
  · subst hi
    by_cases hk : k < w
    · simp [hk]
    · simp [hk]
  · by_cases hw : i < w
    · simp [hi, hw, h i (fun e => hi e.symm)]
    · simp [hi, hw]
theorem made_one (v : Value) (n : Nat) (hv : v.cells = #[v]) : (madeCells v.cells (n * 1)).toList = (List.range n).map fun _ => v := by
  rw [hv]
  rw [toList_madeCells_one, Nat.mul_one]
  simp [List.map_const']
theorem half_pow (n : Int) (k : Nat) : n / 2 ^ k / 2 = n / 2 ^ (k + 1) := by
  rw [Int.ediv_ediv_of_nonneg (Int.le_of_lt (Int.pow_pos (by decide)))]; rfl
theorem div_pow_bd (n : Int) (k : Nat) (h0 : 0 ≤ n) : 0 ≤ n / 2 ^ k ∧ n / 2 ^ k ≤ n := by
  have hp : (0 : Int) < 2 ^ k := Int.pow_pos (by decide)
  exact ⟨Int.ediv_nonneg h0 (Int.le_of_lt hp), Int.ediv_le_self _ h0⟩
theorem pow_bd (k : Nat) (h : k ≤ 30) : (1 : Int) ≤ 2 ^ k ∧ (2 : Int) ^ k ≤ 1073741824 := by
  refine ⟨Int.pow_pos (by decide), ?_⟩
  have := Nat.pow_le_pow_right (n := 2) (by decide) h
  have e : ((2 ^ k : Nat) : Int) ≤ ((2 ^ 30 : Nat) : Int) := Int.ofNat_le.2 this
  simpa using e
theorem and1 (n : Int) : bits BinOp.and IntKind.i64 n 1 = n % 2 := by
  have h1 : (BitVec.ofInt 64 1).toNat = 2 ^ 1 - 1 := by decide
  have key : (BitVec.ofInt 64 n &&& BitVec.ofInt 64 1).toNat = (n % ((2 ^ 64 : Nat) : Int)).toNat % 2 ^ 1 := by
    rw [BitVec.toNat_and, BitVec.toNat_ofInt, h1, Nat.and_two_pow_sub_one_eq_mod]
  show IntKind.i64.wrap ((BitVec.ofInt 64 n &&& BitVec.ofInt 64 1).toNat : Nat) = n % 2
  rw [key, IntKind.wrap_i64]
  omega
end Go.Proofs.YtdokmojifkggjaaDoor

namespace Go.Proofs.YtdokmojifkggjaaDoor
open Go.RowKit
set_option linter.unusedVariables false
set_option maxRecDepth 20000

def bAt (s : ByteArray) (j : Nat) : Int := ((s.data.toList.getD j 0).toNat : Int)
theorem bAt_eq (s : ByteArray) (j : Nat) (h : j < s.size) : (s[j].toNat : Int) = bAt s j := by
  unfold bAt
  have h' : j < s.data.toList.length := h
  rw [List.getD_eq_getElem?_getD, List.getElem?_eq_getElem h']; rfl
abbrev bitAt (s : ByteArray) (j : Nat) : Prop := bAt s j = 48 ∨ bAt s j = 49
def rowB (s : ByteArray) : Bool := (List.range s.size).all (fun j => decide (bitAt s j))
theorem rowB_good (s : ByteArray) (h : ∀ j, j < s.size → bitAt s j) : rowB s = true := by
  unfold rowB; simpa using h
theorem rowB_bad (s : ByteArray) (k : Nat) (hk : k < s.size) (h : ¬ bitAt s k) : rowB s = false := by
  cases hb : rowB s with
  | false => rfl
  | true => exact absurd (by unfold rowB at hb; simp at hb; exact hb k hk) h
theorem rowB_bit (s : ByteArray) (h : rowB s = true) (k : Nat) (hk : k < s.size) : bitAt s k := by
  unfold rowB at h; simp at h; exact h k hk
def rowOkB (s : ByteArray) : Bool := decide (s.size ≤ 400000) && rowB s
theorem rowOkB_big (s : ByteArray) (h : 400000 < s.size) : rowOkB s = false := by unfold rowOkB; simp; omega
theorem rowOkB_small (s : ByteArray) (h : s.size ≤ 400000) : rowOkB s = rowB s := by unfold rowOkB; simp [h]
theorem rowOkB_true (s : ByteArray) (h : rowOkB s = true) : s.size ≤ 400000 ∧ rowB s = true := by unfold rowOkB at h; simpa using h
end Go.Proofs.YtdokmojifkggjaaDoor

namespace Go.Proofs.YtdokmojifkggjaaDoor
open Go.RowKit
set_option linter.unusedVariables false
set_option maxRecDepth 20000

def readN (s : ByteArray) (a : Nat) : Nat → Int
  | 0 => 0
  | k + 1 => 2 * readN s a k + (bAt s (a + k) - 48)
theorem readN_pow (s : ByteArray) (a : Nat) (h : rowB s = true) : ∀ k, a + k ≤ s.size → 0 ≤ readN s a k ∧ readN s a k < 2 ^ k
  | 0, _ => by simp [readN]
  | k + 1, hk => by
    have ih := readN_pow s a h k (by omega)
    have hb := rowB_bit s h (a + k) (by omega)
    unfold bitAt at hb
    rw [readN, Int.pow_succ]
    omega
theorem readN_bd (s : ByteArray) (a k : Nat) (h : rowB s = true) (hk : a + k ≤ s.size) (h30 : (k : Int) ≤ 30) : 0 ≤ readN s a k ∧ readN s a k < 1073741824 := by
  have h1 := readN_pow s a h k hk
  have h2 := pow_bd k (by omega)
  omega
end Go.Proofs.YtdokmojifkggjaaDoor

namespace Go.Proofs.YtdokmojifkggjaaDoor
open Go.RowKit
set_option linter.unusedVariables false
set_option maxRecDepth 20000

def nums (s : ByteArray) : List Int := s.data.toList.map fun c => (c.toNat : Int)
theorem nums_length (s : ByteArray) : (nums s).length = s.size := by simp [nums]
theorem nums_bd (s : ByteArray) : ∀ x ∈ nums s, 0 ≤ x ∧ x ≤ 255 := by
  intro x hx
  obtain ⟨c, _, rfl⟩ := List.mem_map.1 hx
  have := UInt8.toNat_lt c
  omega
theorem nums_append (s t : ByteArray) : nums (s ++ t) = nums s ++ nums t := by
  unfold nums
  rw [ByteArray.data_append, Array.toList_append, List.map_append]
theorem nums_of (zs : List Int) (h : ∀ x ∈ zs, 0 ≤ x ∧ x ≤ 255) : nums (strOfNums zs) = zs := by
  unfold nums
  rw [strOfNums_data, List.map_map]
  conv => rhs; rw [← List.map_id zs]
  apply List.map_congr_left
  intro x hx
  have := h x hx
  simp only [Function.comp, UInt8.toNat_ofNat', id]
  omega
theorem of_nums (s : ByteArray) : strOfNums (nums s) = s := by
  apply ByteArray.ext
  apply Array.ext'
  rw [strOfNums_data]
  unfold nums
  rw [List.map_map]
  conv => rhs; rw [← List.map_id s.data.toList]
  apply List.map_congr_left
  intro x _
  simp
theorem nums_inj {s t : ByteArray} (h : nums s = nums t) : s = t := by rw [← of_nums s, ← of_nums t, h]
theorem bAt_nums (s : ByteArray) (j : Nat) : bAt s j = (nums s).getD j 0 := by
  unfold bAt nums
  simp only [List.getD_eq_getElem?_getD, List.getElem?_map]
  cases s.data.toList[j]? <;> simp
/-- A list of the signs 0 and 1. -/
abbrev Signs (l : List Int) : Prop := ∀ x ∈ l, x = 48 ∨ x = 49
theorem Signs.bd {l : List Int} (h : Signs l) : ∀ x ∈ l, 0 ≤ x ∧ x ≤ 255 := fun x hx => by have := h x hx; omega
theorem Signs.append {l m : List Int} (h : Signs l) (g : Signs m) : Signs (l ++ m) := fun x hx => by
  rcases List.mem_append.1 hx with h' | h'
  · exact h x h'
  · exact g x h'
theorem rowB_of (s : ByteArray) (h : Signs (nums s)) : rowB s = true := by
  refine rowB_good s fun j hj => ?_
  unfold bitAt
  rw [bAt_nums, List.getD_eq_getElem?_getD, List.getElem?_eq_getElem (by rw [nums_length]; exact hj)]
  exact h _ (List.getElem_mem _)
theorem signs_of (s : ByteArray) (h : rowB s = true) : Signs (nums s) := by
  intro x hx
  obtain ⟨j, hj, rfl⟩ := List.mem_iff_getElem.1 hx
  have := rowB_bit s h j (by rw [nums_length] at hj; exact hj)
  unfold bitAt at this
  rw [bAt_nums, List.getD_eq_getElem?_getD, List.getElem?_eq_getElem hj] at this
  exact this
theorem rowOkB_of (s : ByteArray) (hs : s.size ≤ 400000) (h : Signs (nums s)) : rowOkB s = true := by
  rw [rowOkB_small s hs]; exact rowB_of s h
theorem fixL_signs (n : Int) (w : Nat) : Signs (fixL n w) := by
  intro x hx
  obtain ⟨i, _, rfl⟩ := List.mem_map.1 hx
  have := fixAt_bd n w i
  omega
theorem fixL_get (n : Int) (w i : Nat) (hi : i < w) : (fixL n w).getD i 0 = 48 + fixAt n w i := by
  simp [fixL, List.getD_eq_getElem?_getD, hi]
/-- What stands in a row behind a, in k signs, is the number that was put there. -/
theorem readN_fix (s : ByteArray) (a w : Nat) (n : Int) (h0 : 0 ≤ n) (h1 : n < 2 ^ w) (h : ∀ i, i < w → bAt s (a + i) = 48 + fixAt n w i) : readN s a w = n := by
  have key : ∀ j, j ≤ w → readN s a j = n / 2 ^ (w - j) := by
    intro j
    induction j with
    | zero =>
      intro _
      rw [readN, Nat.sub_zero, Int.ediv_eq_zero_of_lt h0 h1]
    | succ j ih =>
      intro hj
      rw [readN, ih (by omega), h j (by omega)]
      unfold fixAt
      rw [show w - j = (w - (j + 1)) + 1 by omega, show w - 1 - j = w - (j + 1) by omega, ← half_pow]
      omega
  have := key w (Nat.le_refl _)
  simpa using this
theorem readN_put (p q : ByteArray) (w : Nat) (n : Int) (h0 : 0 ≤ n) (h1 : n < 2 ^ w) : readN (p ++ strOfNums (fixL n w) ++ q) p.size w = n := by
  refine readN_fix _ _ _ _ h0 h1 fun i hi => ?_
  rw [bAt_nums, nums_append, nums_append, nums_of _ (fixL_signs n w).bd, ← fixL_get n w i hi]
  simp only [List.getD_eq_getElem?_getD]
  rw [List.getElem?_append_left (by rw [List.length_append, nums_length, fixL_length]; omega), List.getElem?_append_right (by rw [nums_length]; omega), nums_length]
  congr 2
  omega
end Go.Proofs.YtdokmojifkggjaaDoor

namespace Go.Proofs.YtdokmojifkggjaaDoor
set_option linter.unusedVariables false
set_option maxRecDepth 20000

def seF (n : Int) : Int := if 0 < n then 2 * n - 1 else -2 * n
def seO (u : Int) : Int := if u % 2 = 1 then (u + 1) / 2 else -(u / 2)
theorem seF_pos (n : Int) (h : 0 < n) : seF n = 2 * n - 1 := by unfold seF; rw [if_pos h]
theorem seF_neg (n : Int) (h : ¬ 0 < n) : seF n = -2 * n := by unfold seF; rw [if_neg h]
theorem seO_odd (u : Int) (h : u % 2 = 1) : seO u = (u + 1) / 2 := by unfold seO; rw [if_pos h]
theorem seO_even (u : Int) (h : ¬ u % 2 = 1) : seO u = -(u / 2) := by unfold seO; rw [if_neg h]
theorem seF_bd (n : Int) (h : -500000 ≤ n ∧ n ≤ 500000) : 0 ≤ seF n ∧ seF n ≤ 1000000 := by
  unfold seF; split <;> omega
theorem seO_seF (n : Int) : seO (seF n) = n := by
  unfold seF seO; split <;> split <;> omega
end Go.Proofs.YtdokmojifkggjaaDoor

namespace Go.Proofs.YtdokmojifkggjaaDoor
open Go.RowKit
set_option linter.unusedVariables false
set_option maxRecDepth 20000

abbrev Bits (b : Nat → Int) : Prop := ∀ j, b j = 0 ∨ b j = 1
/-- The byte of the eight bits from 8 i on. -/
def oct (b : Nat → Int) (i : Nat) : Int := 128 * b (8 * i) + 64 * b (8 * i + 1) + 32 * b (8 * i + 2) + 16 * b (8 * i + 3) + 8 * b (8 * i + 4) + 4 * b (8 * i + 5) + 2 * b (8 * i + 6) + b (8 * i + 7)
/-- The first k bits; 0 behind them. -/
def cutB (b : Nat → Int) (k j : Nat) : Int := if j < k then b j else 0
theorem cutB_bits {b : Nat → Int} (h : Bits b) (k : Nat) : Bits (cutB b k) := fun j => by
  unfold cutB; split
  · exact h j
  · exact .inl rfl
theorem Bits.bd {b : Nat → Int} (h : Bits b) (j : Nat) : 0 ≤ b j ∧ b j ≤ 1 := by have := h j; omega
theorem oct_bd {b : Nat → Int} (h : Bits b) (i : Nat) : 0 ≤ oct b i ∧ oct b i ≤ 255 := by
  have h0 := h.bd (8 * i); have h1 := h.bd (8 * i + 1); have h2 := h.bd (8 * i + 2); have h3 := h.bd (8 * i + 3)
  have h4 := h.bd (8 * i + 4); have h5 := h.bd (8 * i + 5); have h6 := h.bd (8 * i + 6); have h7 := h.bd (8 * i + 7)
  unfold oct; omega
theorem oct_cut_zero (b : Nat → Int) (i : Nat) : oct (cutB b 0) i = 0 := by simp [oct, cutB]
theorem oct_cut_same (b : Nat → Int) (k i : Nat) (h : i ≠ k / 8) : oct (cutB b (k + 1)) i = oct (cutB b k) i := by
  have e : ∀ j, j < 8 → cutB b (k + 1) (8 * i + j) = cutB b k (8 * i + j) := fun j hj => by
    unfold cutB
    by_cases c : 8 * i + j < k
    · rw [if_pos c, if_pos (by omega)]
    · rw [if_neg c, if_neg (by omega)]
  unfold oct
  have e0 : cutB b (k + 1) (8 * i) = cutB b k (8 * i) := e 0 (by omega)
  rw [e0, e 1 (by omega), e 2 (by omega), e 3 (by omega), e 4 (by omega), e 5 (by omega), e 6 (by omega), e 7 (by omega)]
theorem oct_cut_step (b : Nat → Int) (q r : Nat) (hr : r < 8) : oct (cutB b (8 * q + r + 1)) q = oct (cutB b (8 * q + r)) q + b (8 * q + r) * 2 ^ (7 - r) := by
  have hc : r = 0 ∨ r = 1 ∨ r = 2 ∨ r = 3 ∨ r = 4 ∨ r = 5 ∨ r = 6 ∨ r = 7 := by omega
  rcases hc with rfl | rfl | rfl | rfl | rfl | rfl | rfl | rfl <;> simp [oct, cutB, Nat.add_assoc] <;> omega
theorem oct_cut_low (b : Nat → Int) (q r : Nat) (hr : r < 8) : oct (cutB b (8 * q + r)) q % 2 ^ (8 - r) = 0 := by
  have hc : r = 0 ∨ r = 1 ∨ r = 2 ∨ r = 3 ∨ r = 4 ∨ r = 5 ∨ r = 6 ∨ r = 7 := by omega
  rcases hc with rfl | rfl | rfl | rfl | rfl | rfl | rfl | rfl <;> simp [oct, cutB] <;> omega
/-- To put a bit behind the last one by 'or' is to add it. -/
theorem or_put (x y : Int) (r : Nat) (hr : r < 8) (h0 : 0 ≤ x) (h1 : x ≤ 255) (hy : y = 0 ∨ y = 1) (hl : x % 2 ^ (8 - r) = 0) : bits BinOp.or IntKind.u8 x (y * 2 ^ (7 - r)) = x + y * 2 ^ (7 - r) := by
  obtain ⟨n, rfl⟩ := Int.eq_ofNat_of_zero_le h0
  have key : ∀ n : Fin 256, ∀ r : Fin 8, ∀ y : Fin 2, ((n.val : Int) % 2 ^ (8 - r.val) = 0) → bits BinOp.or IntKind.u8 (n.val : Int) ((y.val : Int) * 2 ^ (7 - r.val)) = (n.val : Int) + (y.val : Int) * 2 ^ (7 - r.val) := by decide +kernel
  rcases hy with rfl | rfl
  · exact key ⟨n, by omega⟩ ⟨r, hr⟩ 0 hl
  · exact key ⟨n, by omega⟩ ⟨r, hr⟩ 1 hl
theorem bit_of (b : Nat → Int) (hb : Bits b) (q r : Nat) (hr : r < 8) : oct b q / 2 ^ (7 - r) % 2 = b (8 * q + r) := by
  have h0 := hb.bd (8 * q); have h1 := hb.bd (8 * q + 1); have h2 := hb.bd (8 * q + 2); have h3 := hb.bd (8 * q + 3)
  have h4 := hb.bd (8 * q + 4); have h5 := hb.bd (8 * q + 5); have h6 := hb.bd (8 * q + 6); have h7 := hb.bd (8 * q + 7)
  have hc : r = 0 ∨ r = 1 ∨ r = 2 ∨ r = 3 ∨ r = 4 ∨ r = 5 ∨ r = 6 ∨ r = 7 := by omega
  rcases hc with rfl | rfl | rfl | rfl | rfl | rfl | rfl | rfl <;> simp [oct] <;> omega
end Go.Proofs.YtdokmojifkggjaaDoor

namespace Go.Proofs.YtdokmojifkggjaaDoor
open Go.RowKit
set_option linter.unusedVariables false
set_option maxRecDepth 20000

/-- The bits of a row, the sign 1 that ends it, and then 0. -/
def bitF (s : ByteArray) (j : Nat) : Int := if j < s.size then bAt s j - 48 else if j = s.size then 1 else 0
theorem bitF_bits (s : ByteArray) (h : rowB s = true) : Bits (bitF s) := fun j => by
  unfold bitF
  by_cases c : j < s.size
  · have := rowB_bit s h j c
    unfold bitAt at this
    rw [if_pos c]; omega
  · rw [if_neg c]; split <;> simp
theorem bitF_in (s : ByteArray) (j : Nat) (h : j < s.size) : bitF s j = bAt s j - 48 := by unfold bitF; rw [if_pos h]
theorem bitF_end (s : ByteArray) : bitF s s.size = 1 := by unfold bitF; simp
theorem bitF_out (s : ByteArray) (j : Nat) (h : s.size < j) : bitF s j = 0 := by unfold bitF; rw [if_neg (by omega), if_neg (by omega)]
theorem bitF_cut (s : ByteArray) : cutB (bitF s) (s.size + 1) = bitF s := by
  funext j
  unfold cutB
  by_cases c : j < s.size + 1
  · rw [if_pos c]
  · rw [if_neg c, bitF_out s j (by omega)]
/-- The bytes of a row. -/
def byL (s : ByteArray) : List Int := (List.range (s.size / 8 + 1)).map (oct (bitF s))
theorem byL_length (s : ByteArray) : (byL s).length = s.size / 8 + 1 := by simp [byL]
end Go.Proofs.YtdokmojifkggjaaDoor

namespace Go.Proofs.YtdokmojifkggjaaDoor
open Go.RowKit
set_option linter.unusedVariables false
set_option maxRecDepth 20000

/-- Bit j of a text, the highest of a byte first. -/
def tb (t : ByteArray) (j : Nat) : Int := bAt t (j / 8) / 2 ^ (7 - j % 8) % 2
theorem tb_bd (t : ByteArray) (j : Nat) : 0 ≤ tb t j ∧ tb t j ≤ 1 := by unfold tb; omega
theorem bAt_bd (t : ByteArray) (j : Nat) : 0 ≤ bAt t j ∧ bAt t j ≤ 255 := by
  unfold bAt
  have := UInt8.toNat_lt (t.data.toList.getD j 0)
  omega
def sgL (t : ByteArray) (m : Nat) : List Int := (List.range m).map fun j => 48 + tb t j
theorem sgL_length (t : ByteArray) (m : Nat) : (sgL t m).length = m := by simp [sgL]
theorem sgL_signs (t : ByteArray) (m : Nat) : Signs (sgL t m) := by
  intro x hx
  obtain ⟨i, _, rfl⟩ := List.mem_map.1 hx
  have := tb_bd t i
  omega
theorem sgL_step (t : ByteArray) (k : Nat) : sgL t (8 * k + 8) = sgL t (8 * k) ++ fixL (bAt t k) 8 := by
  unfold sgL fixL
  rw [List.range_add, List.map_append, List.map_map]
  congr 1
  apply List.map_congr_left
  intro i hi
  have hi' := List.mem_range.1 hi
  simp only [Function.comp, tb, fixAt]
  rw [show (8 * k + i) / 8 = k by omega, show (8 * k + i) % 8 = i by omega]
def tzI (x : Int) : Nat := if x % 2 ≠ 0 then 0 else if x % 4 ≠ 0 then 1 else if x % 8 ≠ 0 then 2 else if x % 16 ≠ 0 then 3 else if x % 32 ≠ 0 then 4 else if x % 64 ≠ 0 then 5 else if x % 128 ≠ 0 then 6 else 7
theorem tzI_lt (x : Int) : tzI x ≤ 7 := by
  unfold tzI
  repeat' split
  all_goals omega
theorem tzI_one (x : Int) (h0 : 0 < x) (h1 : x ≤ 255) : x / 2 ^ tzI x % 2 = 1 := by
  obtain ⟨n, rfl⟩ := Int.eq_ofNat_of_zero_le (Int.le_of_lt h0)
  have key : ∀ n : Fin 256, 0 < n.val → (n.val : Int) / 2 ^ tzI (n.val : Int) % 2 = 1 := by decide +kernel
  exact key ⟨n, by omega⟩ (by simp; omega)
theorem tzI_zero (x : Int) (h0 : 0 ≤ x) (h1 : x ≤ 255) (i : Nat) (hi : i < tzI x) : x / 2 ^ i % 2 = 0 := by
  obtain ⟨n, rfl⟩ := Int.eq_ofNat_of_zero_le h0
  have key : ∀ n : Fin 256, ∀ i : Fin 8, i.val < tzI (n.val : Int) → (n.val : Int) / 2 ^ i.val % 2 = 0 := by decide +kernel
  exact key ⟨n, by omega⟩ ⟨i, by have := tzI_lt (n : Int); omega⟩ hi
/-- The bits at the end of a text. -/
theorem tb_end (t : ByteArray) (i : Nat) (hi : i < 8) (ht : 0 < t.size) : tb t (8 * t.size - 1 - i) = bAt t (t.size - 1) / 2 ^ i % 2 := by
  unfold tb
  rw [show (8 * t.size - 1 - i) / 8 = t.size - 1 by omega, show 7 - (8 * t.size - 1 - i) % 8 = i by omega]
/-- How long the row of a text is, its last byte not being 0. -/
def txtLen (t : ByteArray) : Nat := 8 * t.size - 1 - tzI (bAt t (t.size - 1))
/-- When a text is no row. -/
abbrev txtNo (t : ByteArray) : Prop := t.size = 0 ∨ 50001 < t.size ∨ bAt t (t.size - 1) = 0 ∨ 400000 < txtLen t
theorem strCells_nums (zs : List Int) (h : ∀ x ∈ zs, 0 ≤ x ∧ x ≤ 255) : ((strOfNums zs).data.toList.map fun b => Value.int .u8 (b.toNat : Int)) = zs.map (Value.int .u8) := by
  have := nums_of zs h
  unfold nums at this
  conv => rhs; rw [← this]
  rw [List.map_map]
  rfl
end Go.Proofs.YtdokmojifkggjaaDoor

namespace Go.Proofs.YtdokmojifkggjaaDoor
open Go.RowKit
set_option linter.unusedVariables false
set_option maxRecDepth 20000

/-- The bytes of a row, as a text. -/
def byT (s : ByteArray) : ByteArray := strOfNums (byL s)
theorem byT_size (s : ByteArray) : (byT s).size = s.size / 8 + 1 := by unfold byT; rw [strOfNums_size, byL_length]
theorem byT_at (s : ByteArray) (h : rowB s = true) (i : Nat) (hi : i < s.size / 8 + 1) : bAt (byT s) i = oct (bitF s) i := by
  have hb : ∀ x ∈ byL s, 0 ≤ x ∧ x ≤ 255 := by
    intro x hx
    obtain ⟨j, _, rfl⟩ := List.mem_map.1 hx
    exact oct_bd (bitF_bits s h) j
  rw [bAt_nums]
  unfold byT
  rw [nums_of _ hb]
  simp [byL, List.getD_eq_getElem?_getD, hi]
theorem tb_byT (s : ByteArray) (h : rowB s = true) (j : Nat) (hj : j / 8 < s.size / 8 + 1) : tb (byT s) j = bitF s j := by
  unfold tb
  rw [byT_at s h _ hj, bit_of _ (bitF_bits s h) (j / 8) (j % 8) (by omega), show 8 * (j / 8) + j % 8 = j by omega]
theorem tzI_is (x : Int) (m : Nat) (h0 : 0 < x) (h1 : x ≤ 255) (h : ∀ i, i < m → x / 2 ^ i % 2 = 0) (hm : x / 2 ^ m % 2 = 1) : tzI x = m := by
  rcases Nat.lt_trichotomy (tzI x) m with c | c | c
  · have a := h _ c
    have b := tzI_one x h0 h1
    omega
  · exact c
  · have a := tzI_zero x (Int.le_of_lt h0) h1 m c
    omega
theorem byT_last (s : ByteArray) (h : rowB s = true) : 0 < bAt (byT s) ((byT s).size - 1) ∧ bAt (byT s) ((byT s).size - 1) ≤ 255 ∧ tzI (bAt (byT s) ((byT s).size - 1)) = 7 - s.size % 8 := by
  have hz := byT_size s
  have e : (byT s).size - 1 = s.size / 8 := by omega
  rw [e]
  have hbits : ∀ i, i ≤ 7 → bAt (byT s) (s.size / 8) / 2 ^ i % 2 = bitF s (8 * (s.size / 8) + (7 - i)) := by
    intro i hi
    have := bit_of _ (bitF_bits s h) (s.size / 8) (7 - i) (by omega)
    rw [byT_at s h _ (by omega), ← this, show 7 - (7 - i) = i by omega]
  have hbd := bAt_bd (byT s) (s.size / 8)
  have hone : bAt (byT s) (s.size / 8) / 2 ^ (7 - s.size % 8) % 2 = 1 := by
    rw [hbits _ (by omega), show 8 * (s.size / 8) + (7 - (7 - s.size % 8)) = s.size by omega, bitF_end]
  have h0 : 0 < bAt (byT s) (s.size / 8) := by
    rcases Int.lt_or_eq_of_le hbd.1 with c | c
    · exact c
    · rw [← c] at hone; simp at hone
  refine ⟨h0, hbd.2, tzI_is _ _ h0 hbd.2 (fun i hi => ?_) hone⟩
  rw [hbits i (by omega), bitF_out _ _ (by omega)]
theorem byT_len (s : ByteArray) (h : rowB s = true) : txtLen (byT s) = s.size := by
  unfold txtLen
  rw [(byT_last s h).2.2, byT_size]
  omega
theorem byT_yes (s : ByteArray) (h : rowB s = true) (h4 : s.size ≤ 400000) : ¬ txtNo (byT s) := by
  have h1 := byT_last s h
  have h2 := byT_len s h
  have h3 := byT_size s
  unfold txtNo
  omega
theorem byT_back (s : ByteArray) (h : rowB s = true) : strOfNums (sgL (byT s) (txtLen (byT s))) = s := by
  apply nums_inj
  rw [nums_of _ (sgL_signs _ _).bd, byT_len s h]
  apply List.ext_getElem
  · rw [sgL_length, nums_length]
  · intro j h1 h2
    have hj : j < s.size := by rw [sgL_length] at h1; exact h1
    simp only [sgL, List.getElem_map, List.getElem_range]
    rw [tb_byT s h j (by omega), bitF_in s j hj, bAt_nums, List.getD_eq_getElem?_getD, List.getElem?_eq_getElem h2]
    simp only [Option.getD_some]
    omega
theorem byT_inj (s t : ByteArray) (hs : rowB s = true) (ht : rowB t = true) (h : byT s = byT t) : s = t := by
  rw [← byT_back s hs, ← byT_back t ht, h]
end Go.Proofs.YtdokmojifkggjaaDoor
