/-
  The order of a scan: which place comes as the k-th, told diagonal by diagonal.
-/
namespace Go.Proofs.YtlejfkjanllgbaaDoor
set_option linter.unusedVariables false
set_option maxRecDepth 20000

def scan4 : List Nat := [0, 1, 4, 8, 5, 2, 3, 6, 9, 12, 13, 10, 7, 11, 14, 15]
def scan8 : List Nat := [0, 1, 8, 16, 9, 2, 3, 10, 17, 24, 32, 25, 18, 11, 4, 5, 12, 19, 26, 33, 40, 48, 41, 34, 27, 20, 13, 6, 7, 14, 21, 28, 35, 42, 49, 56, 57, 50, 43, 36, 29, 22, 15, 23, 30, 37, 44, 51, 58, 59, 52, 45, 38, 31, 39, 46, 53, 60, 61, 54, 47, 55, 62, 63]
def pre4 : List Nat := [0, 1, 3, 6, 10, 13, 15, 16]
def pre8 : List Nat := [0, 1, 3, 6, 10, 15, 21, 28, 36, 43, 49, 54, 58, 61, 63, 64]
/-- The side of a square that has a scan. -/
def SideOk (sd : Nat) : Prop := sd = 4 ∨ sd = 8
/-- The k-th place. -/
def scF (sd k : Nat) : Nat := (if sd = 4 then scan4 else scan8).getD k 0
/-- How many places come ahead of a diagonal. -/
def preF (sd d : Nat) : Nat := (if sd = 4 then pre4 else pre8).getD d 0
/-- The first and the last row of a diagonal. -/
def lstF (sd d : Nat) : Nat := d + 1 - sd
def mstF (sd d : Nat) : Nat := min d (sd - 1)
/-- The i-th row of a diagonal. -/
def rowF (sd d i : Nat) : Nat := if d % 2 = 0 then mstF sd d - i else lstF sd d + i

theorem scan_facts {sd : Nat} (hs : SideOk sd) : preF sd 0 = 0 ∧ preF sd (2 * sd - 1) = sd * sd ∧
    (∀ d, d < 2 * sd - 1 → preF sd (d + 1) = preF sd d + (mstF sd d - lstF sd d + 1) ∧ lstF sd d ≤ mstF sd d ∧ mstF sd d < sd ∧ mstF sd d ≤ d ∧ preF sd (d + 1) ≤ sd * sd) ∧
    (∀ d, d < 2 * sd - 1 → ∀ i, i < mstF sd d - lstF sd d + 1 → rowF sd d i < sd ∧ rowF sd d i ≤ d ∧ scF sd (preF sd d + i) = rowF sd d i * sd + d - rowF sd d i) := by
  rcases hs with rfl | rfl
  · refine ⟨rfl, rfl, by decide, by decide⟩
  · refine ⟨rfl, rfl, by decide +kernel, by decide +kernel⟩
theorem scF_lt {sd : Nat} (hs : SideOk sd) {k : Nat} (hk : k < sd * sd) : scF sd k < sd * sd := by
  have h : ∀ k, k < sd * sd → scF sd k < sd * sd := by
    rcases hs with rfl | rfl
    · decide
    · decide +kernel
  exact h k hk
theorem scF_inj {sd : Nat} (hs : SideOk sd) {j k : Nat} (hj : j < sd * sd) (hk : k < sd * sd) (h : scF sd j = scF sd k) : j = k := by
  have h' : ∀ j, j < sd * sd → ∀ k, k < sd * sd → scF sd j = scF sd k → j = k := by
    rcases hs with rfl | rfl
    · decide +kernel
    · decide +kernel
  exact h' j hj k hk h

/-- How far the counting has come ahead of the i-th row that is looked at in a diagonal (each row is looked at, and passed by where the diagonal has no place). -/
def lookF (sd d i : Nat) : Nat := if d % 2 = 0 then sd - 1 - i else i
def seenF (sd d i : Nat) : Nat := preF sd d + ((List.range i).filter (fun j => decide (lookF sd d j ≤ d) && decide (d - lookF sd d j ≤ sd - 1))).length
theorem seen_facts {sd : Nat} (hs : SideOk sd) : (∀ d, d < 2 * sd - 1 → seenF sd d 0 = preF sd d ∧ seenF sd d sd = preF sd (d + 1)) ∧
    (∀ d, d < 2 * sd - 1 → ∀ i, i < sd → lookF sd d i < sd ∧ seenF sd d i ≤ sd * sd ∧
      ((lookF sd d i ≤ d ∧ d - lookF sd d i ≤ sd - 1) → seenF sd d (i + 1) = seenF sd d i + 1 ∧ seenF sd d i < sd * sd ∧ scF sd (seenF sd d i) = sd * lookF sd d i + d - lookF sd d i) ∧
      (¬ (lookF sd d i ≤ d ∧ d - lookF sd d i ≤ sd - 1) → seenF sd d (i + 1) = seenF sd d i)) := by
  rcases hs with rfl | rfl
  · refine ⟨by decide +kernel, by decide +kernel⟩
  · refine ⟨by decide +kernel, by decide +kernel⟩
end Go.Proofs.YtlejfkjanllgbaaDoor
