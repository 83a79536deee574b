/-
  A strip in memory, read.
-/
import Derived.Test.YtigcoboaeibcjaaDoorGridStrips
namespace Go.Proofs.YtigcoboaeibcjaaDoor
open Go.RowKit
set_option linter.unusedVariables false
set_option maxRecDepth 20000

theorem strL_get (xs : List Int) : ∀ k i : Nat, i < k → (strL xs k)[i * 3]? = some (.int .i64 (i : Int)) ∧ (strL xs k)[i * 3 + 1]? = some (.int .i64 (8 * sumT xs i)) ∧ (strL xs k)[i * 3 + 2]? = some (.int .i64 (8 * xs.getD i 0))
  | 0, i, h => by omega
  | k + 1, i, h => by
    have hl := strL_len xs k
    rw [strL_succ]
    rcases Nat.lt_or_ge i k with h1 | h1
    · rw [List.getElem?_append_left (by omega), List.getElem?_append_left (by omega), List.getElem?_append_left (by omega)]
      exact strL_get xs k i h1
    · have : i = k := by omega
      subst this
      rw [List.getElem?_append_right (by omega), List.getElem?_append_right (by omega), List.getElem?_append_right (by omega), hl]
      refine ⟨?_, ?_, ?_⟩
      · rw [show i * 3 - i * 3 = 0 by omega]; rfl
      · rw [show i * 3 + 1 - i * 3 = 1 by omega]; rfl
      · rw [show i * 3 + 2 - i * 3 = 2 by omega]; rfl
/-- A strip in memory. -/
theorem strip_at {w : World} {B : Nat} {v : Value} {xs : List Int} {n : Nat} (h : w.ownsRow B 73 3 v n (strL xs n)) (hn : 0 < n) :
    ∃ g cap, v = .slice (some ⟨g, 0, none⟩) n cap ∧ B ≤ g ∧ g < w.heap.size ∧ ∀ w' i, Below w.heap.size w w' → i < n → w'.cell? ⟨g, i * 3, none⟩ = some (.int .i64 (i : Int)) ∧ w'.cell? ⟨g, i * 3 + 1, none⟩ = some (.int .i64 (8 * sumT xs i)) ∧ w'.cell? ⟨g, i * 3 + 2, none⟩ = some (.int .i64 (8 * xs.getD i 0)) := by
  obtain ⟨g, cap, rfl, hb, hg⟩ := h.form hn
  refine ⟨g, cap, rfl, hb, hg, fun w' i hw hi => ?_⟩
  obtain ⟨e0, e1, e2⟩ := strL_get xs n i hi
  have hc := h.cells (g := g) rfl
  have add : ∀ j, (⟨g, 0, none⟩ : Addr).add j = ⟨g, j, none⟩ := fun j => by unfold Addr.add; split <;> simp_all
  have c0 := hc _ _ e0
  have c1 := hc _ _ e1
  have c2 := hc _ _ e2
  rw [add] at c0 c1 c2
  exact ⟨(hw.cell (p := ⟨g, i * 3, none⟩) hg).trans c0, (hw.cell (p := ⟨g, i * 3 + 1, none⟩) hg).trans c1, (hw.cell (p := ⟨g, i * 3 + 2, none⟩) hg).trans c2⟩
end Go.Proofs.YtigcoboaeibcjaaDoor
