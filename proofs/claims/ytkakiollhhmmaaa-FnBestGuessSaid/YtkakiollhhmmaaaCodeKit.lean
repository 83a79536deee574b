/-
  What every law over a drawn code begins with: whether the code is too long, and what of it lies in memory.
-/
import Derived.Test.YtkakiollhhmmaaaRows
import Derived.Test.YtkakiollhhmmaaaDrawAll
import Derived.WalkKit
import Derived.ProofKit
import Derived.OpenShut
import Derived.ShutString
import Derived.ChangeOld
import Derived.Below
import Derived.BigQuiet
namespace Go.Proofs.Ytkakiollhhmmaaa
open Go.ChangeShapes Go.WideShapes Go.ChangeAt Go.RowKit
set_option linter.unusedVariables false
set_option maxRecDepth 20000

set_option maxHeartbeats 400000 in
theorem big_any (a : Option Addr) (len cap : Nat) (w : World) (h : (len : Int) ≤ 1048576) :
    Calls Try.prog 6 #[.slice a len cap] w fun e w' => e = .returned (.bool false) ∧ w' = w := by
  go_enter Try.func6, Try.ntmps6
  go_wp2
  go_ret
  exact ⟨by simp; omega, rfl⟩
set_option maxHeartbeats 400000 in
theorem big_yes (a : Option Addr) (len cap : Nat) (w : World) (h : 1048576 < (len : Int)) :
    Calls Try.prog 6 #[.slice a len cap] w fun e w' => e = .returned (.bool true) ∧ w' = w := by
  go_enter Try.func6, Try.ntmps6
  go_wp2
  go_ret
  exact ⟨rfl, rfl⟩
theorem cellI {w : World} {B g c : Nat} {l : List Int} (h : w.ownsRow B 3 1 (.slice (some ⟨g, 0, none⟩) 12 c) 12 (l.map (Value.int .i64))) (hl : l.length = 12) (j : Nat) (hj : j < 12) : w.cell? ⟨g, j, none⟩ = some (.int .i64 (l.getD j 0)) := by
  rw [h.cellAt j (by omega)]
  simp [List.getElem?_eq_getElem (show j < l.length by omega)]
theorem getD_in {l : List Int} {n j : Nat} (hl : l.length = n) (hj : j < n) (h : ∀ x ∈ l, 0 ≤ x ∧ x < 10000) : 0 ≤ l.getD j 0 ∧ l.getD j 0 < 10000 := by
  rw [List.getD_eq_getElem?_getD, List.getElem?_eq_getElem (by omega)]
  exact h _ (List.getElem_mem _)
/-- A code that came in, of no more bytes than the laws look at. -/
def CodeIn (w : World) (a : Option Addr) (len cap : Nat) : Prop := (len : Int) ≤ 1048576 ∧ (a = none → len = 0 ∧ cap = 0) ∧ CodeRow w w.heap.size a len
theorem codeRow_of {W : World} {x : Addr} {len cap : Nat} {zs : List Int} (hl : len ≤ cap) (hz : zs.length = cap) (hcell : ∀ i, i < zs.length → W.cell? (x.add i) = some (.int .u8 (zs.getD i 0))) (hwz : ∀ n ∈ zs, (Lit.int .u8 n).wf = true) :
    1048576 < (len : Int) ∨ CodeIn W (some x) len cap := by
  by_cases hb : 1048576 < (len : Int)
  · exact .inl hb
  refine .inr ⟨by omega, (fun h => by cases h), by omega, ?_⟩
  by_cases h0 : len = 0
  · exact .inl h0
  obtain ⟨b, off, spot⟩ := x
  have hc := hcell 0 (by omega)
  have hspot : spot = none := by simpa [Addr.add] using World.cell?_spot hc
  subst hspot
  have hc0 : W.cell? ⟨b, off, none⟩ = some (.int .u8 (zs.getD 0 0)) := by simpa [Addr.add] using hc
  refine .inr ⟨b, off, rfl, World.block_lt_of_cell? W _ hc0, fun j hj => ?_⟩
  have hj' : j < zs.length := by omega
  have hm : zs.getD j 0 ∈ zs := by rw [List.getD_eq_getElem?_getD, List.getElem?_eq_getElem hj']; exact List.getElem_mem _
  have hbd := bounds_u8 (hwz _ hm)
  have hadd : (⟨b, off, none⟩ : Addr).add j = ⟨b, off + j, none⟩ := by unfold Addr.add; split <;> simp_all
  exact ⟨zs.getD j 0, hbd.1, hbd.2, by rw [← hadd]; exact hcell j hj'⟩
end Go.Proofs.Ytkakiollhhmmaaa
