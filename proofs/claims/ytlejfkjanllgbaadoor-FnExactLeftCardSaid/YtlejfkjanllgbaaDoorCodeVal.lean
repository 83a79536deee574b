/-
  The bytes of a code as a list.
-/
import Derived.Test.YtlejfkjanllgbaaDoorDrawVal
import Derived.Test.YtlejfkjanllgbaaDoorCodeKit
namespace Go.Proofs.YtlejfkjanllgbaaDoor
open Go.RowKit
set_option linter.unusedVariables false
set_option maxRecDepth 20000

theorem codeV_of {w : World} {B : Nat} {a : Option Addr} {len : Nat} (h : CodeRow w B a len) : ∃ zs : List Int, zs.length = len ∧ CodeV w B a zs := by
  obtain ⟨h1, h2⟩ := h
  rcases h2 with h0 | ⟨b, off, rfl, hb, hc⟩
  · refine ⟨[], by rw [h0]; rfl, by simp, fun j => by simp, .inl rfl⟩
  · have hx : ∀ j : Nat, ∃ z : Int, 0 ≤ z ∧ z ≤ 255 ∧ (j < len → w.cell? ⟨b, off + j, none⟩ = some (.int .u8 z)) := fun j => by
      by_cases hj : j < len
      · obtain ⟨z, z0, z1, z2⟩ := hc j hj
        exact ⟨z, z0, z1, fun _ => z2⟩
      · exact ⟨0, by omega, by omega, fun h => absurd h hj⟩
    have hl : ((List.range len).map (fun j => Classical.choose (hx j))).length = len := by simp
    have hg : ∀ j, j < len → ((List.range len).map (fun j => Classical.choose (hx j))).getD j 0 = Classical.choose (hx j) := fun j hj => by
      rw [List.getD_eq_getElem?_getD, List.getElem?_eq_getElem (by rw [hl]; exact hj)]; simp
    refine ⟨(List.range len).map (fun j => Classical.choose (hx j)), hl, by rw [hl]; exact h1, fun j => ?_, .inr ⟨b, off, rfl, hb, fun j hj => ?_⟩⟩
    · by_cases hj : j < len
      · rw [hg j hj]; exact ⟨(Classical.choose_spec (hx j)).1, (Classical.choose_spec (hx j)).2.1⟩
      · rw [List.getD_eq_getElem?_getD, List.getElem?_eq_none (by rw [hl]; omega)]; simp
    · rw [hl] at hj
      rw [hg j hj]; exact (Classical.choose_spec (hx j)).2.2 hj
end Go.Proofs.YtlejfkjanllgbaaDoor
