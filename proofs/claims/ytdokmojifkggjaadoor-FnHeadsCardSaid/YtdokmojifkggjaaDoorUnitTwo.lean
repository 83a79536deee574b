/-
  The walks of impl.UnitIn and spec.UnitIn: the kind and the row of a text.
-/
import Derived.Test.YtdokmojifkggjaaDoorUnitOne
namespace Go.Proofs.YtdokmojifkggjaaDoor
open Go.RowKit
set_option linter.unusedVariables false
set_option maxRecDepth 20000

/-- What stands behind a unit's kind. -/
abbrev unitT (u : ByteArray) : ByteArray := u.extract 1 u.size
/-- What UnitIn answers: of the kind and of what stands behind it. -/
def unitV (k : Int) (s : ByteArray) : Bool → Bool → Value
  | true, true => .tuple #[.int .i64 k, .string s, .bool true]
  | _, _ => .tuple #[.int .i64 0, .string ⟨#[]⟩, .bool false]

set_option maxHeartbeats 1600000 in
theorem implUnitIn_none (u : ByteArray) (w : World) (h : u.size = 0) :
    Calls Tryd.prog 12 #[.string u] w fun e w' => e = .returned (.tuple #[.int .i64 0, .string ⟨#[]⟩, .bool false]) ∧ Below w.heap.size w w' := by
  go_enter Tryd.func12, Tryd.ntmps12
  go_wp2
  go_ret3
  exact ⟨rfl, Below.refl _ _⟩

set_option maxHeartbeats 1600000 in
theorem implUnitIn_any (u : ByteArray) (w : World) (h0 : 0 < u.size) (hm : (u.size : Int) ≤ 1048576) (s : ByteArray) (b : Bool)
    (HB : Hid (∀ w, Calls Tryd.prog 35 #[.string (unitT u)] w fun e w' => e = .returned (.tuple #[.string s, .bool b]) ∧ Below w.heap.size w w')) :
    Calls Tryd.prog 12 #[.string u] w fun e w' => e = .returned (unitV (bAt u 0) s (kindB (bAt u 0)) b) ∧ Below w.heap.size w w' := by
  have HX : Hid ((u[0].toNat : Int) = bAt u 0) := bAt_eq u 0 h0
  have hbk := bAt_bd u 0
  have hx1 : (u[0].toNat : Int) ≤ 255 := by have := HX.out; omega
  have hwf : (Lit.int .i64 (u[0].toNat : Int)).wf = true := WalkArith.wf_i64 (by omega)
  have e0 : ((u.size : Int) == 0) = false := by rw [beq_eq_false_iff_ne]; omega
  have h1 : (1 : Int) ≤ (u.size : Int) := by omega
  rw [← HX.out]
  generalize hkb : kindB (u[0].toNat : Int) = kb
  have HKB : Hid (kindB (u[0].toNat : Int) = kb) := hkb
  clear hbk hkb
  go_enter Tryd.func12, Tryd.ntmps12
  go_wp2_with fail
  refine (kinds_any w).mono ?_
  rintro e w1 ⟨rfl, hown, hb1⟩
  obtain ⟨c, hlook, hc⟩ := kind_look hown (u[0].toNat : Int) hwf
  rw [HKB.out] at hlook
  clear hown hc hwf HKB
  go_wp2_with fail
  refine (HB.out _).mono ?_
  rintro e w2 ⟨rfl, hc2⟩
  have hb2 := hb1.trans (hc2.mono hb1.size)
  clear hlook HB hc2 hb1
  cases kb <;> cases b
  all_goals
    go_wp2
    go_ret3
    exact ⟨rfl, hb2⟩

end Go.Proofs.YtdokmojifkggjaaDoor
