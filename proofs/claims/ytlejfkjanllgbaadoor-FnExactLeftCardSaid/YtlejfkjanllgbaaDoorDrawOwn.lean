/-
  What the walks of drawn rows share: a row that a draw appends to beside its cursor.
-/
import Derived.Test.YtlejfkjanllgbaaDoorDrawWalks
import Derived.Maps.Range
namespace Go.Proofs.YtlejfkjanllgbaaDoor
open Go.RowKit
set_option linter.unusedVariables false
set_option maxRecDepth 20000

theorem infoB : (Tryd.prog.info? 5).map (fun i => (i.zero, i.size, i.bytes)) = some (some (.int .u8 0), 1, 1) := by kernel_rfl
theorem convD {w : World} {B n : Nat} {v : Value} {zs : List Int} (h : w.ownsRow B 5 1 v n (zs.map (Value.int .u8))) :
    (convert 22 9 v).run Tryd.prog w = .ok (.string (strOfNums zs)) w := by
  have hl := h.1
  simp at hl
  rcases h.2 with ⟨rfl, rfl⟩ | ⟨g, cap, cur, rfl, _, hg, hn, _, hsz, htake⟩
  · rw [run_convert_bytes_nil w 22 5 Tryd.underlying22 Tryd.underlying5 0 0 9 Tryd.underlying9]
    have : zs = [] := List.eq_nil_of_length_eq_zero hl
    subst this; rfl
  · refine run_convert_bytes_arg w 22 5 Tryd.underlying22 Tryd.underlying5 g 0 n cap zs hl (fun i hi => ?_) 9 Tryd.underlying9
    rw [Nat.zero_add, cell_of_row w g i cur 5 (0, 0) hg]
    have hi' : i < zs.length := by omega
    have e1 : (cur.toList.take (n * 1))[i]? = (zs.map (Value.int .u8))[i]? := by rw [htake]
    rw [List.getElem?_take, if_pos (by omega)] at e1
    simp [List.getElem?_eq_getElem hi'] at e1 ⊢
    exact e1

/-- What a round that appends leaves: the cursor, the row, and all that was there but the cursor. -/
theorem cur_append {w wr w1 w2 : World} {g : Nat} {a : Option Addr} {len e n m : Nat} {v v' : Value} {xs ys : List Value} {o : Obj}
    (hgr : w.grownBy wr (some g)) (hown : wr.ownsRow w.heap.size e 1 v n xs) (hgw : g < w.heap.size) (hk : CurKept wr w1 g a len)
    (hgrow : (w1.alloc o).grownBy w2 v.ownBlock) : CurAt w2 g a len ∧ w.grownBy w2 (some g) := by
  have hne : some g ≠ v.ownBlock := fun h => by have := (hown.lt g h.symm).1; omega
  refine ⟨(hk.1.kept (World.grownBy_alloc w1 o none) (by simp)).kept hgrow hne, ?_⟩
  refine ((hgr.trans hk.2).trans (World.grownBy_alloc w1 o (some g))).andThen hgrow (fun j hj => .inl (hown.lt j hj).1)
theorem own_cur {w wr w1 : World} {g : Nat} {a : Option Addr} {len e n : Nat} {v : Value} {xs : List Value}
    (hown : wr.ownsRow w.heap.size e 1 v n xs) (hgw : g < w.heap.size) (hk : CurKept wr w1 g a len) : w1.ownsRow w.heap.size e 1 v n xs :=
  hown.kept hk.2 (.inr fun h => by have := (hown.lt g h).1; omega)
end Go.Proofs.YtlejfkjanllgbaaDoor
