/-
  The walk of strings.IndexByte at the sixteen figures.
-/
import Derived.Test.YtimjbihibacmaaaDoorHexImpl
import Derived.Test.YtimjbihibacmaaaDoorUnMath
namespace Go.Proofs.YtimjbihibacmaaaDoor.hx
open Go.RowKit
set_option linter.unusedVariables false
theorem ret_int {k : IntKind} {a b : Int} (h : a = b) : Ending.returned (.int k a) = .returned (.int k b) := by rw [h]
theorem idx_fig (x : Int) (h0 : 0 ≤ x) (h1 : x ≤ 255) : firstIdx ⟨#[48, 49, 50, 51, 52, 53, 54, 55, 56, 57, 97, 98, 99, 100, 101, 102]⟩ x.toNat.toUInt8 = valI x := by
  obtain ⟨n, rfl⟩ := Int.eq_ofNat_of_zero_le h0
  have key : ∀ n : Fin 256, firstIdx ⟨#[48, 49, 50, 51, 52, 53, 54, 55, 56, 57, 97, 98, 99, 100, 101, 102]⟩ ((n.val : Int)).toNat.toUInt8 = valI (n.val : Int) := by decide +kernel
  exact key ⟨n, by omega⟩
theorem run24 (x : Int) (w : World) (h0 : 0 ≤ x) (h1 : x ≤ 255) :
    (callFunc 28 #[.string ⟨#[48, 49, 50, 51, 52, 53, 54, 55, 56, 57, 97, 98, 99, 100, 101, 102]⟩, .int .u8 x]).run Tryd.prog w = .ok (.value (.int .i64 (valI x))) w := by
  rw [run_callFunc_extern (e := Extern.BytealgIndexByte.indexByte) Tryd.func28 (by kernel_rfl) (by kernel_rfl) (by kernel_rfl) (by kernel_rfl), run_indexByte_string, idx_fig x h0 h1]
  rfl
set_option maxHeartbeats 400000 in
theorem index_any (x : Int) (w : World) (h0 : 0 ≤ x) (h1 : x ≤ 255) :
    Calls Tryd.prog 20 #[.string ⟨#[48, 49, 50, 51, 52, 53, 54, 55, 56, 57, 97, 98, 99, 100, 101, 102]⟩, .int .u8 x] w fun e w' => e = .returned (.int .i64 (valI x)) ∧ w' = w := by
  have hr := run24 x w h0 h1
  go_enter Tryd.func20, Tryd.ntmps20
  go_wp2
  go_ret
  exact ⟨rfl, rfl⟩
end Go.Proofs.YtimjbihibacmaaaDoor.hx
