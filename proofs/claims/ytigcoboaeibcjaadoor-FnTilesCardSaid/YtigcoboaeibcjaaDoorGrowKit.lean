/-
  What blocks and rows keep where one block of the world grows.
-/
import Derived.Test.YtigcoboaeibcjaaDoorFaultKit
import Derived.Maps.AppendAt
import Derived.Maps.Range
namespace Go.Proofs.YtigcoboaeibcjaaDoor
open Go.RowKit
set_option linter.unusedVariables false
set_option maxRecDepth 20000

theorem Blk.grown {w w' : World} {g : Nat} {cs : Array Value} {t : TypeId} {row : Option Nat} (h : Blk w g cs t) (hg : w.grownBy w' row) (hne : some g ≠ row) : Blk w' g cs t := (hg.block g h.lt hne).trans h
theorem grown_set (w : World) (g j : Nat) (v : Value) : w.grownBy (w.setCell ⟨g, j, none⟩ v) (some g) :=
  ⟨rfl, rfl, rfl, by simp, fun k hk hne => Below.heap_setCell w ⟨g, j, none⟩ v k (fun e => hne (by rw [e]))⟩
theorem grown_drew (w : World) (row : Option Nat) : w.grownBy w.drew row := ⟨rfl, rfl, rfl, Nat.le_refl _, fun _ _ _ => rfl⟩
theorem grown_of_below {w w' : World} (hb : Below w.heap.size w w') (row : Option Nat) : w.grownBy w' row := ⟨hb.os, hb.tape, hb.output, hb.size, fun k hk _ => hb.block k hk⟩
theorem below_grown {w w' : World} {g B : Nat} (h : w.grownBy w' (some g)) (hB : B ≤ g) (hw : B ≤ w.heap.size) : Below B w w' := ⟨h.os, h.tape, h.output, h.size, fun k hk => h.block k (by omega) (by intro e; cases e; omega)⟩
theorem ErrT.grown {w w' : World} {g : Nat} (h : ErrT w) (hg : w.grownBy w' (some g)) (hne : 0 < g) : ErrT w' := hg.cell h (by intro e; simp at e; omega)
theorem Ints.grown {w w' : World} {a : Option Addr} {xs : List Int} {g : Nat} (h : Ints w a xs) (hg : w.grownBy w' (some g)) (hq : ∀ p, a = some p → p.block ≠ g) : Ints w' a xs := by
  rcases h with h | ⟨b, off, rfl, hb, hc⟩
  · exact .inl h
  · exact .inr ⟨b, off, rfl, Nat.lt_of_lt_of_le hb hg.size, fun i hi => hg.cell (hc i hi) (by intro e; simp at e; exact hq _ rfl e)⟩

end Go.Proofs.YtigcoboaeibcjaaDoor
