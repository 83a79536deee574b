/-
  Plain facts on figures: what a byte is written as, and the list of the figures of a text.
-/
import Derived.WalkKit
import Derived.Laws.BytesArg
namespace Go.Proofs.YtimjbihibacmaaaDoor.hx
open Go.RowKit
set_option linter.unusedVariables false

def fig (x : Int) : Int := if x < 10 then 48 + x else 87 + x
def hexL (l : List UInt8) : List Int := l.flatMap fun c => [fig ((c.toNat : Int) / 16), fig ((c.toNat : Int) % 16)]
theorem hexL_length (l : List UInt8) : (hexL l).length = 2 * l.length := by
  unfold hexL
  induction l with
  | nil => rfl
  | cons a l ih => simp [List.flatMap_cons] at ih ⊢; omega
theorem take_snoc (s : ByteArray) (k : Nat) (h : k < s.size) : s.data.toList.take (k + 1) = s.data.toList.take k ++ [s[k]] := by
  rw [List.take_succ_eq_append_getElem (by simpa using h)]; rfl
theorem hexL_snoc (l : List UInt8) (c : UInt8) : hexL (l ++ [c]) = hexL l ++ [fig ((c.toNat : Int) / 16), fig ((c.toNat : Int) % 16)] := by
  simp [hexL, List.flatMap_append]
theorem hexL_step (s : ByteArray) (k : Nat) (h : k < s.size) : hexL (s.data.toList.take (k + 1)) = hexL (s.data.toList.take k) ++ [fig ((s[k].toNat : Int) / 16), fig ((s[k].toNat : Int) % 16)] := by
  rw [take_snoc s k h, hexL_snoc]
theorem hexL_take_length (s : ByteArray) (k : Nat) (h : k ≤ s.size) : (hexL (s.data.toList.take k)).length = 2 * k := by
  rw [hexL_length, List.length_take]; have : s.data.toList.length = s.size := rfl
  omega
end Go.Proofs.YtimjbihibacmaaaDoor.hx
