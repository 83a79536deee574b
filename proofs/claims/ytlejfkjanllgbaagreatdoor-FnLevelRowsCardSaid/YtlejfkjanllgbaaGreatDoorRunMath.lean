/-
  Runs of a list of numbers: each number that is not 0, with how many noughts stand ahead of it; their rows and how long these are.
-/
import Derived.Test.YtlejfkjanllgbaaGreatDoorCountMath
import Derived.Test.YtlejfkjanllgbaaGreatDoorFoldMath
import Derived.Test.YtlejfkjanllgbaaGreatDoorIntAll
namespace Go.Proofs.YtlejfkjanllgbaaGreatDoor
open Go.RowKit
set_option linter.unusedVariables false
set_option maxRecDepth 20000

/-- How many noughts stand at the end of the first k numbers. -/
def zrF (xs : List Int) : Nat → Nat
  | 0 => 0
  | k + 1 => if xs.getD k 0 = 0 then zrF xs k + 1 else 0
/-- The runs of the first k numbers. -/
def rnF (xs : List Int) : Nat → List (Nat × Int)
  | 0 => []
  | k + 1 => if xs.getD k 0 = 0 then rnF xs k else rnF xs k ++ [(zrF xs k, xs.getD k 0)]
theorem zrF_nought {xs : List Int} {k : Nat} (h : xs.getD k 0 = 0) : zrF xs (k + 1) = zrF xs k + 1 := if_pos h
theorem zrF_level {xs : List Int} {k : Nat} (h : ¬ xs.getD k 0 = 0) : zrF xs (k + 1) = 0 := if_neg h
theorem rnF_nought {xs : List Int} {k : Nat} (h : xs.getD k 0 = 0) : rnF xs (k + 1) = rnF xs k := if_pos h
theorem rnF_level {xs : List Int} {k : Nat} (h : ¬ xs.getD k 0 = 0) : rnF xs (k + 1) = rnF xs k ++ [(zrF xs k, xs.getD k 0)] := if_neg h
theorem zr_rn_le (xs : List Int) : ∀ k, zrF xs k + (rnF xs k).length ≤ k
  | 0 => Nat.le_refl _
  | k + 1 => by
    have := zr_rn_le xs k
    by_cases h : xs.getD k 0 = 0
    · rw [zrF_nought h, rnF_nought h]; omega
    · rw [zrF_level h, rnF_level h, List.length_append]; simp; omega
/-- A run that a list of numbers of -5000 .. 5000 has. -/
def RunOk (r : Nat × Int) : Prop := r.1 ≤ 64 ∧ -5000 ≤ r.2 ∧ r.2 ≤ 5000 ∧ r.2 ≠ 0
theorem rn_ok {xs : List Int} (hb : inB 5000 xs = true) (hl : xs.length ≤ 64) : ∀ k, k ≤ xs.length → ∀ r ∈ rnF xs k, RunOk r
  | 0, _, r, hr => by cases hr
  | k + 1, hk, r, hr => by
    have ih := rn_ok hb hl k (by omega)
    by_cases h : xs.getD k 0 = 0
    · rw [rnF_nought h] at hr
      exact ih r hr
    · rw [rnF_level h] at hr
      rcases List.mem_append.1 hr with h1 | h1
      · exact ih r h1
      · rw [List.mem_singleton.1 h1]
        have h2 := inB_iff.1 hb k (by omega)
        have h3 := zr_rn_le xs k
        exact ⟨by show zrF xs k ≤ 64; omega, h2.1, h2.2, h⟩

/-- The signs of a run, and of runs one behind the other. -/
def runL (r : Nat × Int) : List Int := ueL (r.1 : Int) ++ ueL (seF r.2)
def bodyL : List (Nat × Int) → List Int
  | [] => []
  | r :: rs => runL r ++ bodyL rs
theorem bodyL_append (a b : List (Nat × Int)) : bodyL (a ++ b) = bodyL a ++ bodyL b := by
  induction a with
  | nil => rfl
  | cons r rs ih => show runL r ++ bodyL (rs ++ b) = (runL r ++ bodyL rs) ++ bodyL b; rw [ih, List.append_assoc]
theorem bodyL_one (r : Nat × Int) : bodyL [r] = runL r := List.append_nil _
theorem runL_signs (r : Nat × Int) : Signs (runL r) := (ueL_signs _).append (ueL_signs _)
theorem bodyL_signs : ∀ rs : List (Nat × Int), Signs (bodyL rs)
  | [] => fun x hx => by cases hx
  | r :: rs => (runL_signs r).append (bodyL_signs rs)
/-- The row of runs. -/
def rowL (rs : List (Nat × Int)) : List Int := ueL (rs.length : Int) ++ bodyL rs
theorem rowL_signs (rs : List (Nat × Int)) : Signs (rowL rs) := (ueL_signs _).append (bodyL_signs rs)
theorem strOfNums_app (a b : List Int) : strOfNums a ++ strOfNums b = strOfNums (a ++ b) := by
  apply ByteArray.ext
  simp [strOfNums]

theorem ueL_len (n : Int) (h0 : 0 ≤ n) (h1 : n ≤ 1000000) : (ueL n).length = 2 * wid (n + 1) - 1 ∧ 1 ≤ wid (n + 1) ∧ wid (n + 1) ≤ 20 := by
  obtain ⟨w1, w2, _⟩ := wid_pow (n + 1) (by omega) (by omega)
  refine ⟨?_, w1, w2⟩
  have := ueS_size n h0 h1
  unfold ueS at this
  rw [← this]
  simp [strOfNums, ByteArray.size]
theorem seF_in {n : Int} (h : -5000 ≤ n ∧ n ≤ 5000) : 0 ≤ seF n ∧ seF n ≤ 10000 := by
  unfold seF
  split <;> omega
/-- How long the signs of a run are. -/
def runN (r : Nat × Int) : Int := (2 * (wid ((r.1 : Int) + 1) : Int) - 1) + (2 * (wid (seF r.2 + 1) : Int) - 1)
theorem runL_len {r : Nat × Int} (h : RunOk r) : ((runL r).length : Int) = runN r ∧ 2 ≤ runN r ∧ runN r ≤ 78 := by
  obtain ⟨h1, h2, h3, _⟩ := h
  obtain ⟨a1, a2, a3⟩ := ueL_len (r.1 : Int) (by omega) (by omega)
  have hs := seF_in ⟨h2, h3⟩
  obtain ⟨b1, b2, b3⟩ := ueL_len (seF r.2) hs.1 (by omega)
  unfold runL runN
  rw [List.length_append, a1, b1]
  omega
def sumN : List (Nat × Int) → Int
  | [] => 0
  | r :: rs => runN r + sumN rs
theorem sumN_append (a b : List (Nat × Int)) : sumN (a ++ b) = sumN a + sumN b := by
  induction a with
  | nil => simp [sumN]
  | cons r rs ih => show runN r + sumN (rs ++ b) = (runN r + sumN rs) + sumN b; rw [ih]; omega
theorem bodyL_len : ∀ {rs : List (Nat × Int)}, (∀ r ∈ rs, RunOk r) → ((bodyL rs).length : Int) = sumN rs ∧ 0 ≤ sumN rs ∧ sumN rs ≤ 78 * rs.length
  | [], _ => ⟨rfl, by decide, by decide⟩
  | r :: rs, h => by
    obtain ⟨a1, a2, a3⟩ := runL_len (h r (by simp))
    obtain ⟨b1, b2, b3⟩ := bodyL_len (rs := rs) (fun x hx => h x (by simp [hx]))
    show ((runL r ++ bodyL rs).length : Int) = runN r + sumN rs ∧ 0 ≤ runN r + sumN rs ∧ runN r + sumN rs ≤ 78 * ((r :: rs).length : Int)
    rw [List.length_append, List.length_cons]
    omega
/-- The cells of runs. -/
def runCells : List (Nat × Int) → List Value
  | [] => []
  | r :: rs => .int .i64 (r.1 : Int) :: .int .i64 r.2 :: runCells rs
theorem runCells_append (a b : List (Nat × Int)) : runCells (a ++ b) = runCells a ++ runCells b := by
  induction a with
  | nil => rfl
  | cons r rs ih => simp [runCells, ih]
theorem runCells_len (rs : List (Nat × Int)) : (runCells rs).length = rs.length * 2 := by
  induction rs with
  | nil => rfl
  | cons r rs ih => simp [runCells, ih]; omega
theorem runCells_get (rs : List (Nat × Int)) : ∀ k, k < rs.length → (runCells rs)[k * 2]? = some (.int .i64 ((rs.getD k (0, 0)).1 : Int)) ∧ (runCells rs)[k * 2 + 1]? = some (.int .i64 (rs.getD k (0, 0)).2) := by
  induction rs with
  | nil => intro k hk; cases hk
  | cons r rs ih =>
    intro k hk
    cases k with
    | zero => exact ⟨rfl, rfl⟩
    | succ k =>
      have := ih k (by simpa using hk)
      rw [show (k + 1) * 2 = k * 2 + 1 + 1 by omega]
      simpa [runCells] using this
theorem take_snoc (rs : List (Nat × Int)) (k : Nat) (hk : k < rs.length) : rs.take (k + 1) = rs.take k ++ [rs.getD k (0, 0)] := by
  rw [List.take_add_one, List.getElem?_eq_getElem hk]
  simp [List.getD, hk]
theorem getD_mem (rs : List (Nat × Int)) (k : Nat) (hk : k < rs.length) : rs.getD k (0, 0) ∈ rs := by
  rw [List.getD_eq_getElem?_getD, List.getElem?_eq_getElem hk]
  exact List.getElem_mem _

/-- Whether a list has a row of runs. -/
def rnOk (xs : List Int) : Bool := (decide (xs.length = 16) || decide (xs.length = 64)) && inB 5000 xs
/-- .. and the row. -/
def rnS (xs : List Int) : ByteArray := if rnOk xs = true then strOfNums (rowL (rnF xs xs.length)) else ⟨#[]⟩
theorem rnOk_of {xs : List Int} (h : rnOk xs = true) : (xs.length = 16 ∨ xs.length = 64) ∧ inB 5000 xs = true := by
  unfold rnOk at h
  simpa using h
end Go.Proofs.YtlejfkjanllgbaaGreatDoor
