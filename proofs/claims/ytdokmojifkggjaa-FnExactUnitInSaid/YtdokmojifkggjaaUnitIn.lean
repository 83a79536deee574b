/-
  At every text impl.UnitIn answers as the model does: the law laws.FnExactUnitIn returns true whatever its argument, and what was there before stands. No condition.
-/
import Derived.Test.YtdokmojifkggjaaRows
import Derived.Test.YtdokmojifkggjaaUnitTwo
import Derived.WalkKit
import Derived.ProofKit
import Derived.OpenShut
import Derived.ShutString
namespace Go.Proofs.Ytdokmojifkggjaa.fnExactUnitIn
open Go.ChangeShapes Go.WideShapes Go.ChangeAt Go.RowKit
open Go.ChangeMaps (open_string shut_string)
set_option linter.unusedVariables false

theorem own : ownKnob Try.prog.godebug = none := by kernel_rfl

theorem walk (a0 : ByteArray) (w0 : a0.size ≤ maxLen) (w : World) :
    Calls Try.prog 4 #[.string a0] w fun e w' => e = .returned (.bool true) ∧ Below w.heap.size w w' := by
  by_cases h1 : 1048576 < a0.size
  · have hm := w0
    unfold maxLen at hm
    go_enter Try.func4, Try.ntmps4
    go_wp2
    go_ret
    exact ⟨rfl, Below.refl _ _⟩
  have hm : (a0.size : Int) ≤ 1048576 := by omega
  clear h1
  obtain ⟨n, s, b, CS, CI⟩ : ∃ (n : Int) (s : ByteArray) (b : Bool), Hid (∀ w', Calls Try.prog 7 #[.string a0] w' fun e w'' => e = .returned (.tuple #[.int .i64 n, .string s, .bool b]) ∧ Below w'.heap.size w' w'') ∧
      Hid (∀ w', Calls Try.prog 8 #[.string a0] w' fun e w'' => e = .returned (.tuple #[.int .i64 n, .string s, .bool b]) ∧ Below w'.heap.size w' w'') := by
    by_cases h0 : a0.size = 0
    · exact ⟨_, _, _, fun w' => specUnitIn_none a0 w' h0, fun w' => implUnitIn_none a0 w' h0⟩
    · obtain ⟨s, b, _, _, _, HI, HS⟩ := txt_any (unitT a0) (by rw [ByteArray.size_extract]; omega)
      have cs := fun w' => specUnitIn_any a0 w' (by omega) hm s b HS
      have ci := fun w' => implUnitIn_any a0 w' (by omega) hm s b HI
      generalize kindB (bAt a0 0) = kb at cs ci
      cases kb <;> cases b <;> exact ⟨_, _, _, cs, ci⟩
  clear w0
  go_enter Try.func4, Try.ntmps4
  go_wp2_with (first
    | (go_at_call 7; refine (CS.out _).mono ?_; rintro e w1 ⟨rfl, hb1⟩)
    | (go_at_call 8; refine (CI.out _).mono ?_; rintro e w2 ⟨rfl, hb2⟩))
  all_goals go_ret
  all_goals exact ⟨by simp, hb1.trans (hb2.mono hb1.size)⟩

set_option maxRecDepth 100000 in
theorem lifted (os : Os) (started : os.Started) (H : Type) (enc : TypeId × Value → H) :
    ReturnsInHanded {} Try.checked os 4 .any (Rows.fnExactUnitInSpec.pre6 enc Try.prog Try.f4 Rows.fnExactUnitInRow.domain false) (Rows.fnExactUnitInSpec.post enc Try.prog Try.f4 false true false false) := by
  refine returnsInHanded_of_change (C := Try.checked) own started (by kernel_rfl) Try.func4
    (ChangeSpec.witness6 (enc := enc) (C := Try.checked) false ⟨#[], #[.string ByteArray.empty], []⟩ 8 (by kernel_rfl) (by kernel_rfl) (by kernel_rfl) (by kernel_rfl)) ?_
  intro W base args ds gs before hval0 hW hcnd _
  have hval : ∀ (j : Nat) t v, Try.f4.params[j]? = some t → args[j]? = some v → Value.okWide Try.prog W .any base t v := hval0
  have hW' := hW
  obtain ⟨p, q, hA0, hV, rfl, hfz, hnd⟩ := hW
  have hA : DataW.TrodAll enc Try.prog W 0 (fun _ => true) true Try.f4.params.toList args.toList ds p := hA0
  rw [Try.params4] at hA hval
  obtain ⟨v0, vs0, d0, ds0, p0, q0, hargs, rfl, rfl, h0, r0⟩ := trodAll_cons hA
  obtain ⟨rfl, rfl, rfl⟩ := trodAll_nil r0
  obtain rfl : args = #[v0] := by cases args; simp_all
  obtain ⟨rfl, rfl⟩ := trodVars_none hV
  obtain ⟨a0, rfl, rfl, rfl, w0⟩ := open_string Try.underlying9 (hval 0 9 v0 rfl rfl) h0
  clear hA0 hval0
  refine (walk a0 w0 W).mono fun e W' ⟨he, hg⟩ => ?_
  subst he
  exact ⟨_, rfl, _, _, _, [], _, [], hW', (trodAll_cons_mk (shut_bool Try.underlying4 _) trodAll_mk0), (trodAll_cons_mk (shut_string Try.underlying9 w0) trodAll_mk0), rfl, hg.frame _, fun h => by cases h⟩

theorem over : Rows.fnExactUnitInRow.holds Try.pinned (OpenSpec.ofChange Rows.fnExactUnitInSpec) :=
  OpenClaim.holds_of_wide 4 Try.f4 rfl rfl rfl rfl rfl rfl rfl ⟨rfl, rfl, rfl, rfl, rfl⟩ rfl rfl rfl rfl rfl (by kernel_rfl) Try.func4 (by kernel_rfl)
    (of_decide_eq_true (by kernel_rfl)) (by unfold Func.isWrapper; first | (rw [if_pos (by decide +kernel)]; kernel_rfl) | (rw [if_neg (by decide +kernel)]; exact ⟨rfl, rfl⟩))
    (fun os started H enc _ => lifted os started H enc)

theorem proved : Rows.FnExactUnitInSaid :=
  over
#print axioms proved
end Go.Proofs.Ytdokmojifkggjaa.fnExactUnitIn
