/-
  Facts on what the law on impl.PartsOf carries from call to call.
-/
import Derived.Test.YtlbaahcifchknaaPaImpl
import Derived.Test.YtlbaahcifchknaaMaEq
namespace Go.Proofs.Ytlbaahcifchknaa
open Go.RowKit
def textsOf (l : List (List UInt8)) : List ByteArray := l.map fun x => ⟨x.toArray⟩
theorem strsOf_texts (l : List (List UInt8)) : strsOf l = (textsOf l).map Value.string := by simp [strsOf, textsOf]
theorem textsOf_length (l : List (List UInt8)) : (textsOf l).length = l.length := by simp [textsOf]
theorem owns_textRow {w : World} {B n : Nat} {v : Value} {l : List (List UInt8)} (h : w.ownsRow B 9 1 v n (strsOf l)) : TextRow w v (textsOf l) := by
  rw [strsOf_texts] at h
  exact textRow_of_owns h
/-- A row of texts stays where another row, of a higher block, was written. -/
theorem TextRow.grown {w w' : World} {v u : Value} {xs : List ByteArray} {B e n : Nat} {ys : List Value} (h : TextRow w v xs) (hv : ∀ g, v.ownBlock = some g → xs = [] ∨ g < B) (hu : w.ownsRow B e 1 u n ys) (hg : w.grownBy w' u.ownBlock) : TextRow w' v xs := by
  rcases h with h | ⟨g, c, rfl, hgl, hc⟩
  · exact .inl h
  · rcases hv g rfl with rfl | hlt
    · exact .inl ⟨_, _, rfl, rfl⟩
    · refine .inr ⟨g, c, rfl, Nat.lt_of_lt_of_le hgl hg.size, fun i hi => ?_⟩
      rw [hg.cell_far ⟨g, i, none⟩ hgl (fun hh => by have := (hu.lt g hh.symm).1; omega)]
      exact hc i hi
end Go.Proofs.Ytlbaahcifchknaa
