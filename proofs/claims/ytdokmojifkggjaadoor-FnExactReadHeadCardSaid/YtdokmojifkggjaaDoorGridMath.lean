/-
  Plain facts on the grid: strips, tiles, which tile has a dot, how many squares the tiles have together, the least level.
-/
import Derived.Test.YtdokmojifkggjaaDoorSetMath
namespace Go.Proofs.YtdokmojifkggjaaDoor
set_option linter.unusedVariables false
set_option maxRecDepth 20000

theorem sumT_mono {xs : List Int} (hg : goodT xs xs.length) : ∀ {i j : Nat}, i ≤ j → j ≤ xs.length → sumT xs i ≤ sumT xs j
  | i, 0, h, _ => by have : i = 0 := by omega
                     subst this; exact Int.le_refl _
  | i, j + 1, h, hj => by
    rcases Nat.lt_or_ge i (j + 1) with h1 | h1
    · have h2 := sumT_mono hg (i := i) (j := j) (by omega) (by omega)
      have h3 := (hg j (by omega)).1
      rw [sumT_succ xs j (by omega)]
      omega
    · have : i = j + 1 := by omega
      subst this; exact Int.le_refl _
/-- The strip i has the dot x. -/
def inS (xs : List Int) (i : Nat) (x : Int) : Bool := decide (8 * sumT xs i ≤ x) && decide (x < 8 * sumT xs i + 8 * xs.getD i 0)
theorem inS_iff {xs : List Int} {i : Nat} {x : Int} : inS xs i x = true ↔ 8 * sumT xs i ≤ x ∧ x < 8 * sumT xs i + 8 * xs.getD i 0 := by
  unfold inS; simp
theorem inS_not {xs : List Int} {i : Nat} {x : Int} (h : x < 8 * sumT xs i ∨ 8 * sumT xs i + 8 * xs.getD i 0 ≤ x) : inS xs i x = false := by
  rw [Bool.eq_false_iff]; intro h1; have := inS_iff.1 h1; omega
theorem inS_lt {xs : List Int} (hg : goodT xs xs.length) {i j : Nat} (hij : i < j) (hj : j < xs.length) {x : Int} (h1 : inS xs i x = true) (h2 : inS xs j x = true) : False := by
  have a := inS_iff.1 h1
  have b := inS_iff.1 h2
  have c := sumT_mono hg (i := i + 1) (j := j) (by omega) (by omega)
  rw [sumT_succ xs i (by omega)] at c
  omega
theorem inS_uniq {xs : List Int} (hg : goodT xs xs.length) {i j : Nat} (hi : i < xs.length) (hj : j < xs.length) {x : Int} (h1 : inS xs i x = true) (h2 : inS xs j x = true) : i = j := by
  rcases Nat.lt_trichotomy i j with h | h | h
  · exact (inS_lt hg h hj h1 h2).elim
  · exact h
  · exact (inS_lt hg h hi h2 h1).elim
theorem inS_some {xs : List Int} {x : Int} (h0 : 0 ≤ x) : ∀ k : Nat, k ≤ xs.length → x < 8 * sumT xs k → ∃ i, i < k ∧ inS xs i x = true
  | 0, _, h => by rw [sumT_zero] at h; omega
  | k + 1, hk, h => by
    by_cases c : x < 8 * sumT xs k
    · obtain ⟨i, h1, h2⟩ := inS_some h0 k (by omega) c
      exact ⟨i, by omega, h2⟩
    · rw [sumT_succ xs k (by omega)] at h
      exact ⟨k, by omega, inS_iff.2 (by omega)⟩
/-- The tile t has the dot. -/
def hasB (xs ys : List Int) (t : Nat) (x y : Int) : Bool := inS xs (t % xs.length) x && inS ys (t / xs.length) y
theorem hasB_iff {xs ys : List Int} {t : Nat} {x y : Int} : hasB xs ys t x y = true ↔ inS xs (t % xs.length) x = true ∧ inS ys (t / xs.length) y = true := by
  unfold hasB; simp
theorem div_lt' {t n m : Nat} (h : t < n * m) : t / n < m := Nat.div_lt_of_lt_mul h
theorem hasB_uniq {xs ys : List Int} (hx : goodT xs xs.length) (hy : goodT ys ys.length) {s t : Nat} (hn : 0 < xs.length) (hs : s < xs.length * ys.length) (ht : t < xs.length * ys.length) {x y : Int} (h1 : hasB xs ys s x y = true) (h2 : hasB xs ys t x y = true) : s = t := by
  obtain ⟨a, b⟩ := hasB_iff.1 h1
  obtain ⟨c, d⟩ := hasB_iff.1 h2
  have e1 := inS_uniq hx (Nat.mod_lt _ hn) (Nat.mod_lt _ hn) a c
  have e2 := inS_uniq hy (div_lt' hs) (div_lt' ht) b d
  rw [← Nat.div_add_mod s xs.length, ← Nat.div_add_mod t xs.length, e1, e2]
theorem hasB_at {xs ys : List Int} {c r : Nat} (hc : c < xs.length) {x y : Int} (h1 : inS xs c x = true) (h2 : inS ys r y = true) : hasB xs ys (r * xs.length + c) x y = true := by
  rw [hasB_iff]
  rw [show (r * xs.length + c) % xs.length = c by rw [Nat.add_comm, Nat.add_mul_mod_self_right]; exact Nat.mod_eq_of_lt hc]
  rw [show (r * xs.length + c) / xs.length = r by rw [Nat.add_comm, Nat.add_mul_div_right _ _ (by omega), Nat.div_eq_of_lt hc]; omega]
  exact ⟨h1, h2⟩
theorem tile_lt {c r n m : Nat} (hc : c < n) (hr : r < m) : r * n + c < n * m := by
  have : (r + 1) * n ≤ m * n := Nat.mul_le_mul_right n hr
  rw [Nat.add_mul, Nat.one_mul] at this
  rw [Nat.mul_comm n m]; omega
/-- The first of the tiles that has the dot; -1 when none has. -/
def tileI (xs ys : List Int) (x y : Int) : Int := match (List.range (xs.length * ys.length)).find? (fun t => hasB xs ys t x y) with | some t => (t : Int) | none => -1
theorem tileI_no {xs ys : List Int} {x y : Int} (h : ∀ t, t < xs.length * ys.length → hasB xs ys t x y = false) : tileI xs ys x y = -1 := by
  unfold tileI
  rw [show (List.range (xs.length * ys.length)).find? (fun t => hasB xs ys t x y) = none by
    rw [List.find?_eq_none]; intro t ht; rw [h t (List.mem_range.1 ht)]; decide]
theorem tileI_hit {xs ys : List Int} (hx : goodT xs xs.length) (hy : goodT ys ys.length) {x y : Int} {t : Nat} (ht : t < xs.length * ys.length) (h : hasB xs ys t x y = true) : tileI xs ys x y = (t : Int) := by
  have hn : 0 < xs.length := by
    rcases Nat.eq_zero_or_pos xs.length with h0 | h0
    · rw [h0] at ht; simp at ht
    · exact h0
  unfold tileI
  cases hf : (List.range (xs.length * ys.length)).find? (fun t => hasB xs ys t x y) with
  | none => rw [List.find?_eq_none] at hf; exact absurd h (hf t (List.mem_range.2 ht))
  | some s =>
    have h1 : hasB xs ys s x y = true := by simpa using List.find?_some hf
    have h2 : s < xs.length * ys.length := List.mem_range.1 (List.mem_of_find?_eq_some hf)
    rw [hasB_uniq hx hy hn h2 ht h1 h]
theorem tileI_iff {xs ys : List Int} (hx : goodT xs xs.length) (hy : goodT ys ys.length) {x y : Int} {t : Nat} (ht : t < xs.length * ys.length) : tileI xs ys x y = (t : Int) ↔ hasB xs ys t x y = true := by
  constructor
  · intro h
    by_cases hs : ∃ s, s < xs.length * ys.length ∧ hasB xs ys s x y = true
    · obtain ⟨s, h1, h2⟩ := hs
      rw [tileI_hit hx hy h1 h2] at h
      have : s = t := by omega
      subst this; exact h2
    · rw [tileI_no (fun s h1 => by
        rw [Bool.eq_false_iff]; exact fun h2 => hs ⟨s, h1, h2⟩)] at h
      omega
  · exact tileI_hit hx hy ht
/-- The squares of the first k tiles. -/
def sqT (xs ys : List Int) (k : Nat) : Int := ((List.range k).map (fun t => xs.getD (t % xs.length) 0 * ys.getD (t / xs.length) 0)).sum
theorem sqT_zero (xs ys : List Int) : sqT xs ys 0 = 0 := rfl
theorem sqT_succ (xs ys : List Int) (k : Nat) : sqT xs ys (k + 1) = sqT xs ys k + xs.getD (k % xs.length) 0 * ys.getD (k / xs.length) 0 := by
  unfold sqT; rw [List.range_succ, List.map_append, List.sum_append]; simp
theorem sqT_at (xs ys : List Int) (hn : 0 < xs.length) : ∀ k : Nat, k ≤ xs.length * ys.length → sqT xs ys k = sumT ys (k / xs.length) * sumT xs xs.length + sumT xs (k % xs.length) * ys.getD (k / xs.length) 0
  | 0, _ => by simp [sqT_zero, sumT_zero, Nat.zero_div, Nat.zero_mod]
  | k + 1, hk => by
    have hm : k % xs.length < xs.length := Nat.mod_lt _ hn
    have hd : k / xs.length < ys.length := div_lt' (by omega)
    have ih := sqT_at xs ys hn k (by omega)
    rw [sqT_succ, ih]
    have es := sumT_succ xs (k % xs.length) hm
    by_cases hl : k % xs.length + 1 < xs.length
    · have e1 : (k + 1) % xs.length = k % xs.length + 1 := by
        rw [Nat.add_mod, Nat.mod_eq_of_lt (a := 1) (by omega)]; exact Nat.mod_eq_of_lt hl
      have e2 : (k + 1) / xs.length = k / xs.length := by
        rw [Nat.succ_div_of_not_dvd]
        intro hdv; have := Nat.mod_eq_zero_of_dvd hdv; omega
      rw [e1, e2, es, Int.add_mul]; omega
    · have e0 : k % xs.length + 1 = xs.length := by omega
      have e1 : (k + 1) % xs.length = 0 := by
        rw [← Nat.mod_add_div k xs.length, show k % xs.length + xs.length * (k / xs.length) + 1 = (k % xs.length + 1) + xs.length * (k / xs.length) by omega, e0, Nat.add_mul_mod_self_left, Nat.mod_self]
      have e2 : (k + 1) / xs.length = k / xs.length + 1 := Nat.succ_div_of_dvd (Nat.dvd_of_mod_eq_zero e1)
      rw [e0] at es
      rw [e1, e2, sumT_zero, sumT_succ ys _ hd, es]
      generalize sumT ys (k / xs.length) = A
      generalize sumT xs (k % xs.length) = B
      generalize xs.getD (k % xs.length) 0 = C
      generalize ys.getD (k / xs.length) 0 = D
      rw [Int.zero_mul, Int.add_mul A D, Int.mul_add D, Int.mul_comm D B, Int.mul_comm D C]
      omega
theorem sqT_all (xs ys : List Int) (hn : 0 < xs.length) : sqT xs ys (xs.length * ys.length) = sumT xs xs.length * sumT ys ys.length := by
  rw [sqT_at xs ys hn _ (Nat.le_refl _), Nat.mul_mod_right, Nat.mul_div_cancel_left _ hn, sumT_zero, Int.zero_mul, Int.add_zero, Int.mul_comm]
theorem sqT_bd (xs ys : List Int) (hx : goodT xs xs.length) (hy : goodT ys ys.length) (hn : 0 < xs.length) : ∀ k : Nat, k ≤ xs.length * ys.length → 0 ≤ sqT xs ys k ∧ sqT xs ys k ≤ 64 * (k : Int)
  | 0, _ => by simp [sqT_zero]
  | k + 1, hk => by
    obtain ⟨a, b⟩ := sqT_bd xs ys hx hy hn k (by omega)
    obtain ⟨c, d⟩ := hx _ (Nat.mod_lt k hn)
    obtain ⟨e, f⟩ := hy _ (div_lt' (show k < xs.length * ys.length by omega))
    rw [sqT_succ]
    have g1 := Int.mul_nonneg (show 0 ≤ xs.getD (k % xs.length) 0 by omega) (show 0 ≤ ys.getD (k / xs.length) 0 by omega)
    have g2 := Int.mul_le_mul d f (by omega) (by omega : (0:Int) ≤ 8)
    omega
/-- How many tiles a set has. -/
def tilesI (l b : Int) (xs ys : List Int) : Int := if seqB l b xs ys = true then (xs.length : Int) * (ys.length : Int) else 0
/-- What a right set's lists are like. -/
theorem seq_sides {l b : Int} {xs ys : List Int} (h : seqB l b xs ys = true) : (goodT xs xs.length ∧ 1 ≤ xs.length ∧ xs.length ≤ 4) ∧ (goodT ys ys.length ∧ 1 ≤ ys.length ∧ ys.length ≤ 4) ∧ sideI xs = sumT xs xs.length ∧ sideI ys = sumT ys ys.length := by
  obtain ⟨a, b⟩ := sqI_pos (seqB_true h).1
  obtain ⟨a1, a2, a3⟩ := sideI_pos a
  obtain ⟨b1, b2, b3⟩ := sideI_pos b
  exact ⟨⟨a2, a3, a1⟩, ⟨b2, b3, b1⟩, sideI_good a1 a2, sideI_good b1 b2⟩
theorem mul_le4 {n m : Nat} (h1 : n ≤ 4) (h2 : m ≤ 4) : n * m ≤ 16 := Nat.le_trans (Nat.mul_le_mul h1 h2) (by decide)
/-- There is a tile of this number. -/
def okT (l b : Int) (xs ys : List Int) (t : Int) : Bool := decide (0 ≤ t) && decide (t < tilesI l b xs ys)
theorem okT_true {l b : Int} {xs ys : List Int} {t : Int} (h : okT l b xs ys t = true) : seqB l b xs ys = true ∧ ∃ k : Nat, t = (k : Int) ∧ k < xs.length * ys.length := by
  unfold okT tilesI at h
  simp only [Bool.and_eq_true, decide_eq_true_eq] at h
  obtain ⟨h0, h1⟩ := h
  split at h1
  · rename_i hs
    refine ⟨hs, t.toNat, by omega, ?_⟩
    have : ((t.toNat : Nat) : Int) < ((xs.length * ys.length : Nat) : Int) := by rw [Int.natCast_mul]; omega
    omega
  · omega
theorem okT_of {l b : Int} {xs ys : List Int} {k : Nat} (hs : seqB l b xs ys = true) (hk : k < xs.length * ys.length) : okT l b xs ys (k : Int) = true := by
  unfold okT tilesI
  rw [if_pos hs]
  have : (k : Int) < ((xs.length * ys.length : Nat) : Int) := by omega
  rw [Int.natCast_mul] at this
  simp; omega
/-- Where a tile is. -/
def rL (xs ys : List Int) (k : Nat) : Int := 8 * sumT xs (k % xs.length)
def rT (xs ys : List Int) (k : Nat) : Int := 8 * sumT ys (k / xs.length)
def rW (xs ys : List Int) (k : Nat) : Int := 8 * xs.getD (k % xs.length) 0
def rH (xs ys : List Int) (k : Nat) : Int := 8 * ys.getD (k / xs.length) 0
/-- The least level. -/
def lvlF (xs ys : List Int) : Int := if seqB 1 3 xs ys = true then 1 else if seqB 2 3 xs ys = true then 2 else if seqB 3 3 xs ys = true then 3 else 0
end Go.Proofs.YtdokmojifkggjaaDoor
