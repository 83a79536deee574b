/-
  Rows of texts that came in.
-/
import Derived.Test.YtabpdiekmljceaaDoorTextEq
import Derived.Test.YtabpdiekmljceaaDoorUnitKit
namespace Go.Proofs.YtabpdiekmljceaaDoor
open Go.RowKit
set_option linter.unusedVariables false
attribute [local go_sem ↓] Go.wp_at_zero Go.wp_at_succ

/-- A row of texts, wherever it lies. -/
def Texts (w : World) (a : Option Addr) (xs : List ByteArray) : Prop :=
  xs = [] ∨ ∃ b off, a = some ⟨b, off, none⟩ ∧ b < w.heap.size ∧ ∀ i, i < xs.length → w.cell? ⟨b, off + i, none⟩ = some (.string (xs.getD i ByteArray.empty))
theorem Texts.below {w w' : World} {a : Option Addr} {xs : List ByteArray} {B : Nat} (h : Texts w a xs) (hb : Below B w w') (hB : w.heap.size ≤ B) : Texts w' a xs := by
  rcases h with h | ⟨b, off, rfl, hg, hc⟩
  · exact .inl h
  · exact .inr ⟨b, off, rfl, Nat.lt_of_lt_of_le hg hb.size, fun i hi => (hb.cell (p := ⟨b, off + i, none⟩) (Nat.lt_of_lt_of_le hg hB)).trans (hc i hi)⟩
theorem infoS : (Tryd.prog.info? 9).map (fun i => (i.zero, i.size, i.bytes)) = some (some (.string ByteArray.empty), 1, 16) := by kernel_rfl
end Go.Proofs.YtabpdiekmljceaaDoor
