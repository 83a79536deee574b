/-
  The walk of spec.BytesRow: the row of a text.
-/
import Derived.Test.YtdokmojifkggjaaDoorMFixKit
import Derived.Test.YtdokmojifkggjaaDoorMSetMath
import Derived.Lib.AppendStr
import Derived.Deep.AppendLies
namespace Go.Proofs.YtdokmojifkggjaaDoor
open Go.RowKit
set_option linter.unusedVariables false
set_option maxRecDepth 20000

theorem conv_cut {w : World} {B n m g cap cap' : Nat} {zs : List Int} (h : w.ownsRow B 5 1 (.slice (some ⟨g, 0, none⟩) n cap) n (zs.map (Value.int .u8))) (hm : m ≤ n) :
    (convert 22 9 (.slice (some ⟨g, 0, none⟩) m cap')).run Tryd.prog w = .ok (.string (strOfNums (zs.take m))) w := by
  have hl := h.1
  simp at hl
  refine run_convert_bytes_arg w 22 5 Tryd.underlying22 Tryd.underlying5 g 0 m cap' (zs.take m) (by simp; omega) (fun i hi => ?_) 9 Tryd.underlying9
  rw [Nat.zero_add, h.cellAt i (by omega)]
  simp [List.getElem?_eq_getElem (show i < zs.length by omega), hi]
theorem own_belowT {w w' : World} {B e size n : Nat} {v : Value} {xs : List Value} (h : w.ownsRow B e size v n xs) (hb : Below w.heap.size w w') : w'.ownsRow B e size v n xs := by
  refine ⟨h.1, ?_⟩
  rcases h.2 with hn | ⟨g, cap, cur, rfl, h1, hg, rest⟩
  · exact .inl hn
  · refine .inr ⟨g, cap, cur, rfl, h1, ?_, rest⟩
    rw [hb.block g (Array.getElem?_eq_some_iff.1 hg).1]; exact hg
theorem own_cap {w : World} {B e n g cap : Nat} {xs : List Value} (h : w.ownsRow B e 1 (.slice (some ⟨g, 0, none⟩) n cap) n xs) : n ≤ cap := by
  rcases h.2 with ⟨h', _⟩ | ⟨g', cap', cur, h', _, _, hn, _⟩
  · simp at h'
  · simp only [Value.slice.injEq, Option.some.injEq, Addr.mk.injEq, and_true, true_and] at h'
    obtain ⟨rfl, rfl⟩ := h'
    exact hn
theorem sgL_take (t : ByteArray) (m n : Nat) (h : m ≤ n) : (sgL t n).take m = sgL t m := by
  unfold sgL
  rw [← List.map_take, List.take_range, Nat.min_eq_left h]

end Go.Proofs.YtdokmojifkggjaaDoor
