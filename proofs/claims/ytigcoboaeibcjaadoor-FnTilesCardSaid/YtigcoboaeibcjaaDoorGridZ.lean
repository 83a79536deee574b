/-
  What TileRect answers, field by field.
-/
import Derived.Test.YtigcoboaeibcjaaDoorGridVal
namespace Go.Proofs.YtigcoboaeibcjaaDoor
open Go.RowKit
set_option linter.unusedVariables false
set_option maxRecDepth 20000

/-- A field of what TileRect answers. -/
def zR (f : List Int → List Int → Nat → Int) (l b : Int) (xs ys : List Int) (t : Int) : Int := if okT l b xs ys t = true then f xs ys t.toNat else 0
theorem rectV_eq (l b : Int) (xs ys : List Int) (t : Int) : rectV l b xs ys t = .agg #[.int .i64 (zR rL l b xs ys t), .int .i64 (zR rT l b xs ys t), .int .i64 (zR rW l b xs ys t), .int .i64 (zR rH l b xs ys t)] := by
  unfold rectV zR; split <;> rfl
theorem rectV_yes {l b : Int} {xs ys : List Int} {k : Nat} (h : okT l b xs ys (k : Int) = true) : rectV l b xs ys (k : Int) = .agg #[.int .i64 (rL xs ys k), .int .i64 (rT xs ys k), .int .i64 (rW xs ys k), .int .i64 (rH xs ys k)] := by
  unfold rectV; rw [if_pos h]; rfl
theorem zR_yes {f : List Int → List Int → Nat → Int} {l b : Int} {xs ys : List Int} {k : Nat} (h : okT l b xs ys (k : Int) = true) : zR f l b xs ys (k : Int) = f xs ys k := by
  unfold zR; rw [if_pos h]; rfl
theorem zR_no {f : List Int → List Int → Nat → Int} {l b : Int} {xs ys : List Int} {t : Int} (h : okT l b xs ys t = false) : zR f l b xs ys t = 0 := by
  unfold zR; rw [h]; rfl
/-- A tile's sides, in squares. -/
theorem zW_bd (l b : Int) (xs ys : List Int) (t : Int) : ∃ x : Int, zR rW l b xs ys t = 8 * x ∧ 0 ≤ x ∧ x ≤ 8 := by
  cases ho : okT l b xs ys t with
  | false => exact ⟨0, by rw [zR_no ho]; rfl, by omega, by omega⟩
  | true =>
    obtain ⟨hs, k, rfl, hk⟩ := okT_true ho
    obtain ⟨⟨gx, n0, n1⟩, ⟨gy, m0, m1⟩, _⟩ := seq_sides hs
    refine ⟨xs.getD (k % xs.length) 0, by rw [zR_yes ho]; rfl, ?_, (gx _ (Nat.mod_lt _ (by omega))).2⟩
    have := (gx _ (Nat.mod_lt k (by omega))).1; omega
theorem zH_bd (l b : Int) (xs ys : List Int) (t : Int) : ∃ x : Int, zR rH l b xs ys t = 8 * x ∧ 0 ≤ x ∧ x ≤ 8 := by
  cases ho : okT l b xs ys t with
  | false => exact ⟨0, by rw [zR_no ho]; rfl, by omega, by omega⟩
  | true =>
    obtain ⟨hs, k, rfl, hk⟩ := okT_true ho
    obtain ⟨⟨gx, n0, n1⟩, ⟨gy, m0, m1⟩, _⟩ := seq_sides hs
    refine ⟨ys.getD (k / xs.length) 0, by rw [zR_yes ho]; rfl, ?_, (gy _ (div_lt' hk)).2⟩
    have := (gy _ (div_lt' hk)).1; omega
end Go.Proofs.YtigcoboaeibcjaaDoor
