/-
  What a round that appends the byte of two figures leaves.
-/
import Derived.Test.YtimjbihibacmaaaDoorUnIndex
namespace Go.Proofs.YtimjbihibacmaaaDoor.hx
open Go.RowKit
set_option linter.unusedVariables false
attribute [local go_sem ↓] Go.wp_at_zero Go.wp_at_succ

theorem un_rel {w wr w1 : World} {s : ByteArray} {k g cap : Nat} {u4 : Value} {x : Int} (hx : x = pairAt s k) (hb : Below w.heap.size w wr) (hown : wr.ownsRow w.heap.size 5 1 u4 k ((unL s k).map (Value.int .u8)))
    (hown1 : w1.ownsRow w.heap.size 5 1 (.slice (some ⟨g, 0, none⟩) (k + 1) cap) (k + 1) ((unL s k).map (Value.int .u8) ++ [.int .u8 x]))
    (hgrow : (wr.alloc (.cells #[.int .u8 x] 5)).grownBy w1 u4.ownBlock) :
    w1.ownsRow w.heap.size 5 1 (.slice (some ⟨g, 0, none⟩) (k + 1) cap) (k + 1) ((unL s (k + 1)).map (Value.int .u8)) ∧ Below w.heap.size w w1 := by
  refine ⟨?_, ?_⟩
  · rw [unL_succ, List.map_append, ← hx]
    exact hown1
  · exact (hb.alloc hb.size _).grown hgrow (by have := hb.size; simp; omega) (fun j hj => (hown.lt j hj).1)

end Go.Proofs.YtimjbihibacmaaaDoor.hx
