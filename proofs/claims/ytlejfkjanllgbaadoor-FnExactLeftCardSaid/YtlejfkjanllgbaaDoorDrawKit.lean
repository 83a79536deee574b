/-
  Facts on the cursor of a draw: what it is in memory, and the few facts on numbers that its walks want.
-/
import Derived.WalkKit
import Derived.OwnWalk
import Derived.WalkSmall
import Derived.Laws.OwnMore
import Derived.Laws.BytesArg
import Derived.Deep.AppendLies
import Derived.Maps.AppendAt
namespace Go.Proofs.YtlejfkjanllgbaaDoor
open Go.RowKit
set_option linter.unusedVariables false
set_option maxRecDepth 20000

/-- The bytes of a code that came in lie below B and can be read. -/
def CodeRow (w : World) (B : Nat) (a : Option Addr) (len : Nat) : Prop :=
  len ≤ 2000000 ∧ (len = 0 ∨ ∃ b off, a = some ⟨b, off, none⟩ ∧ b < B ∧ ∀ j, j < len → ∃ z : Int, 0 ≤ z ∧ z ≤ 255 ∧ w.cell? ⟨b, off + j, none⟩ = some (.int .u8 z))
theorem CodeRow.below {w w' : World} {B : Nat} {a : Option Addr} {len : Nat} (h : CodeRow w B a len) (hb : Below B w w') : CodeRow w' B a len := by
  refine ⟨h.1, ?_⟩
  rcases h.2 with h0 | ⟨b, off, ha, hlt, hc⟩
  · exact .inl h0
  · refine .inr ⟨b, off, ha, hlt, fun j hj => ?_⟩
    obtain ⟨z, h1, h2, h3⟩ := hc j hj
    exact ⟨z, h1, h2, (hb.cell (p := ⟨b, off + j, none⟩) hlt).trans h3⟩

/-- A cursor lies in block g: the code's slice, a place in it, and a number. -/
def CurAt (w : World) (g : Nat) (a : Option Addr) (len : Nat) : Prop :=
  ∃ (cap i : Nat) (h : Int), w.heap[g]? = some (.cells #[.slice a len cap, .int .i64 i, .int .i64 h] 66 (0, 0)) ∧ i ≤ len
theorem CurAt.kept {w w' : World} {g : Nat} {a : Option Addr} {len : Nat} {row : Option Nat} (h : CurAt w g a len) (hg : w.grownBy w' row) (hne : some g ≠ row) : CurAt w' g a len := by
  obtain ⟨cap, i, h, h1, h2⟩ := h
  exact ⟨cap, i, h, by rw [hg.block g (Array.getElem?_eq_some_iff.1 h1).1 hne]; exact h1, h2⟩
theorem CurAt.lt {w : World} {g : Nat} {a : Option Addr} {len : Nat} (h : CurAt w g a len) : g < w.heap.size := by
  obtain ⟨cap, i, h, h1, h2⟩ := h
  exact (Array.getElem?_eq_some_iff.1 h1).1
theorem grown_setCell (w : World) (a : Addr) (u : Value) : w.grownBy (w.setCell a u) (some a.block) :=
  ⟨rfl, rfl, rfl, by simp, fun k _ hne => heap_setCell_other w a k u (fun h => hne (by rw [h]))⟩
theorem grown_drewN (w : World) (n : Nat) (row : Option Nat) : w.grownBy (w.drewN n) row := ⟨rfl, rfl, rfl, Nat.le_refl _, fun _ _ _ => rfl⟩
theorem below_of_grown {w w' : World} {B : Nat} {row : Option Nat} (hg : w.grownBy w' row) (hB : B ≤ w.heap.size) (hr : ∀ k, row = some k → B ≤ k) : Below B w w' := (Below.refl B w).grown hg hB hr
theorem frozen_of_row {w : World} {g i : Nat} {cs : Array Value} {t : TypeId} (h : w.heap[g]? = some (.cells cs t (0, 0))) : w.frozen? ⟨g, i, none⟩ = false := by
  simp [World.frozen?, h]
theorem cur_h {w : World} {g len cap i : Nat} {a : Option Addr} {h h' : Int} (hb : w.heap[g]? = some (.cells #[.slice a len cap, .int .i64 i, .int .i64 h] 66 (0, 0))) :
    (w.setCell ⟨g, 2, none⟩ (.int .i64 h')).heap[g]? = some (.cells #[.slice a len cap, .int .i64 i, .int .i64 h'] 66 (0, 0)) := by
  rw [heap_setCell_same w g 2 _ _ _ hb]; rfl
theorem cur_i {w : World} {g len cap i i' : Nat} {a : Option Addr} {h : Int} (hb : w.heap[g]? = some (.cells #[.slice a len cap, .int .i64 i, .int .i64 h] 66 (0, 0))) :
    (w.setCell ⟨g, 1, none⟩ (.int .i64 i')).heap[g]? = some (.cells #[.slice a len cap, .int .i64 i', .int .i64 h] 66 (0, 0)) := by
  rw [heap_setCell_same w g 1 _ _ _ hb]; rfl
theorem i64_and255 (n : Int) : bits .and .i64 n 255 = n % 256 := by
  have h255 : (BitVec.ofInt 64 255).toNat = 2 ^ 8 - 1 := by decide
  have key : (BitVec.ofInt 64 n &&& BitVec.ofInt 64 255).toNat = (n % ((2 ^ 64 : Nat) : Int)).toNat % 2 ^ 8 := by
    rw [BitVec.toNat_and, BitVec.toNat_ofInt, h255, Nat.and_two_pow_sub_one_eq_mod]
  show IntKind.i64.wrap ((BitVec.ofInt 64 n &&& BitVec.ofInt 64 255).toNat : Nat) = n % 256
  rw [key, IntKind.wrap_i64]
  omega
end Go.Proofs.YtlejfkjanllgbaaDoor
