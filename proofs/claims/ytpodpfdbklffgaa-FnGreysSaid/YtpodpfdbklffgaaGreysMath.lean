/-
  A grey picture is right and grey at each place.
-/
import Derived.Test.YtpodpfdbklffgaaGreyKit
import Derived.Test.YtpodpfdbklffgaaNumKit
namespace Go.Proofs.Ytpodpfdbklffgaa
open Go.RowKit
set_option linter.unusedVariables false
set_option maxRecDepth 20000

theorem greyT_size (n : Nat) : (greyT n).size = n := by
  unfold greyT
  rw [strOfNums_size, List.length_replicate]
theorem greyT_at (n j : Nat) (h : j < n) : bAt (greyT n) j = 128 := by
  unfold greyT
  rw [bAt_nums, nums_of _ (fun x hx => by rw [List.eq_of_mem_replicate hx]; omega), List.getD_eq_getElem?_getD, List.getElem?_replicate, if_pos h]
  rfl
theorem grey_ok {W H : Int} (h1 : 1 ≤ W ∧ W ≤ 256) (h2 : 1 ≤ H ∧ H ≤ 256) : picB W H (greyT (W * H).toNat) = true := by
  have := sides_mul h1 h2
  refine picB_iff.2 ⟨h1, h2, ?_⟩
  rw [greyT_size]
  omega
theorem grey_dot {W H : Int} (h1 : 1 ≤ W ∧ W ≤ 256) (h2 : 1 ≤ H ∧ H ≤ 256) (x y : Int) : dotF W H (greyT (W * H).toNat) x y = 128 := by
  unfold dotF
  have := place_in (W := W) (H := H) (x := x) (y := y) h1.1 h2.1
  exact greyT_at _ _ (by omega)
theorem grey_block {W H : Int} (h1 : 1 ≤ W ∧ W ≤ 256) (h2 : 1 ≤ H ∧ H ≤ 256) {x y : Int} (hx : -1000 ≤ x ∧ x ≤ 1000) (hy : -1000 ≤ y ∧ y ≤ 1000) :
    blockL W H (greyT (W * H).toNat) x y = List.replicate 64 128 := by
  have e1 : startB x = true := by simpa [startB] using hx
  have e2 : startB y = true := by simpa [startB] using hy
  unfold blockL
  rw [grey_ok h1 h2, e1, e2]
  have e3 : listF 64 (blockF W H (greyT (W * H).toNat) x y) = listF 64 (fun _ => (128 : Int)) := listF_congr fun i _ => by
    unfold blockF
    exact grey_dot h1 h2 _ _
  simp only [Bool.and_self, if_true]
  rw [e3]
  simp [listF, List.map_const']
theorem rep_get (n j : Nat) (x : Int) (h : j < n) : ((List.replicate n x).map (Value.int .i64))[j]? = some (.int .i64 x) := by
  rw [List.map_replicate, List.getElem?_replicate, if_pos h]
end Go.Proofs.Ytpodpfdbklffgaa
