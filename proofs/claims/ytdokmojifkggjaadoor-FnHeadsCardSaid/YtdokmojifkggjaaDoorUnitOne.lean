/-
  The walks of impl.UnitOf, spec.UnitOf, impl.UnitIn and spec.UnitIn: a kind and a row in one text.
-/
import Derived.Test.YtdokmojifkggjaaDoorKindSpec
import Derived.Test.YtdokmojifkggjaaDoorBytImpl
import Derived.Test.YtdokmojifkggjaaDoorBytSpec
import Derived.Test.YtdokmojifkggjaaDoorTxtImpl
import Derived.Test.YtdokmojifkggjaaDoorTxtSpec
import Derived.BigRegion
namespace Go.Proofs.YtdokmojifkggjaaDoor
open Go.RowKit
set_option linter.unusedVariables false
set_option maxRecDepth 20000

/-- The unit of a kind and a row. -/
def unitS (k : Int) (s : ByteArray) : ByteArray := strOfNums [k] ++ strOfNums (byL s)

theorem rowOkB_size {s : ByteArray} (h : rowOkB s = true) : s.size ≤ 400000 := by
  unfold rowOkB at h; simp at h; omega
theorem rowOkB_row {s : ByteArray} (h : rowOkB s = true) : rowB s = true := by
  unfold rowOkB at h; simp at h; exact h.2
theorem rowOkB_max {s : ByteArray} (h : rowOkB s = true) : s.size ≤ maxLen := by
  have := rowOkB_size h; unfold maxLen; omega
theorem byL_size (s : ByteArray) (h : rowOkB s = true) : (strOfNums (byL s)).size ≤ 50001 := by
  rw [strOfNums_size, byL_length]; have := rowOkB_size h; omega

set_option maxHeartbeats 1600000 in
theorem implUnitOf (k : Int) (s : ByteArray) (w : World) (hk : kindB k = true) (hr : rowOkB s = true) :
    Calls Tryd.prog 11 #[.int .i64 k, .string s] w fun e w' => e = .returned (.tuple #[.string (unitS k s), .bool true]) ∧ Below w.heap.size w w' := by
  have HK : Hid (kindB k = true) := hk
  have HR : Hid (rowOkB s = true) := hr
  have hk1 : 1 ≤ k ∧ k ≤ 8 := by rcases kindB_cases hk with rfl | rfl | rfl | rfl <;> omega
  have hwf : (Lit.int .i64 k).wf = true := WalkArith.wf_i64 (by omega)
  have hsz := byL_size s hr
  clear hk hr
  go_enter Tryd.func11, Tryd.ntmps11
  go_wp2_with fail
  refine (kinds_any w).mono ?_
  rintro e w1 ⟨rfl, hown, hb1⟩
  obtain ⟨c, hlook, hc⟩ := kind_look hown k hwf
  have e0 := hc HK.out
  subst e0
  rw [HK.out] at hlook
  have HB : Hid (Calls Tryd.prog 34 #[.string s] w1 _) := implBytes s w1 HR.out
  clear hown hc hwf
  go_wp2_with fail
  refine HB.out.mono ?_
  rintro e w2 ⟨rfl, hc2⟩
  have hb2 := hb1.trans (hc2.mono hb1.size)
  have hown : (w2.alloc (.cells #[.int .u8 c] 5)).ownsRow w.heap.size 5 1 (.slice (some ⟨w2.heap.size, 0, none⟩) 1 1) 1 ([c].map (Value.int .u8)) := World.ownsRow_lit w2 #[.int .u8 c] 1 hb2.size (by unfold maxLen; omega) rfl
  have hconv := convF (zs := [c]) hown
  have hbA : Below w.heap.size w (w2.alloc (.cells #[.int .u8 c] 5)) := hb2.alloc hb2.size _
  have hlim : ¬ 9223372036854775807 < (strOfNums [c]).size + (strOfNums (byL s)).size := by
    rw [strOfNums_size, List.length_singleton]; omega
  clear hown HB hc2 hb1 hb2 hlook hsz
  go_wp2
  go_ret2
  exact ⟨rfl, hbA⟩

set_option maxHeartbeats 1600000 in
theorem implUnitOf_no (k : Int) (s : ByteArray) (w : World) (hwf : (Lit.int .i64 k).wf = true) (hm : s.size ≤ maxLen) (h : kindB k = false ∨ rowOkB s = false) :
    Calls Tryd.prog 11 #[.int .i64 k, .string s] w fun e w' => e = .returned (.tuple #[.string ⟨#[]⟩, .bool false]) ∧ Below w.heap.size w w' := by
  obtain ⟨t, b, HB, hbk⟩ : ∃ t b, Hid (∀ w', Calls Tryd.prog 34 #[.string s] w' fun e w'' => e = .returned (.tuple #[.string t, .bool b]) ∧ Below w'.heap.size w' w'') ∧ (kindB k = false ∨ b = false) := by
    cases hr : rowOkB s with
    | false => exact ⟨_, false, fun w' => (implBytes_no s w' hm hr).mono (fun e w'' h => ⟨h.1, by rw [h.2]; exact Below.refl _ _⟩), .inr rfl⟩
    | true => exact ⟨_, true, fun w' => implBytes s w' hr, .inl (h.resolve_right (by simp [hr]))⟩
  clear h
  generalize hkb : kindB k = kb at hbk
  have HK : Hid (kindB k = kb) := hkb
  clear hkb hm
  go_enter Tryd.func11, Tryd.ntmps11
  go_wp2_with fail
  refine (kinds_any w).mono ?_
  rintro e w1 ⟨rfl, hown, hb1⟩
  obtain ⟨c, hlook, hc⟩ := kind_look hown k hwf
  rw [HK.out] at hlook
  clear hown hc hwf HK
  go_wp2_with fail
  refine (HB.out w1).mono ?_
  rintro e w2 ⟨rfl, hc2⟩
  have hb2 := hb1.trans (hc2.mono hb1.size)
  clear hlook HB hc2 hb1
  cases kb with
  | false =>
    clear hbk
    go_wp2
    go_ret2
    exact ⟨rfl, hb2⟩
  | true =>
    have e0 : b = false := hbk.resolve_left (by simp)
    subst e0
    clear hbk
    go_wp2
    go_ret2
    exact ⟨rfl, hb2⟩

theorem row_belowU {w w' : World} {B e size n : Nat} {v : Value} {xs : List Value} (h : w.ownsRow B e size v n xs) (hb : Below w.heap.size w w') : w'.ownsRow B e size v n xs := own_belowT h hb

end Go.Proofs.YtdokmojifkggjaaDoor
