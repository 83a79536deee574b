/-
  At every number and every text impl.UnitOf answers as the model does: the law laws.FnExactUnitOf returns true whatever its arguments, and what was there before stands. No condition.
-/
import Derived.Test.YtdokmojifkggjaaRows
import Derived.Test.YtdokmojifkggjaaUnitOne
import Derived.WalkKit
import Derived.ProofKit
import Derived.OpenShut
import Derived.ShutString
namespace Go.Proofs.Ytdokmojifkggjaa.fnExactUnitOf
open Go.ChangeShapes Go.WideShapes Go.ChangeAt Go.RowKit
open Go.ChangeMaps (open_string shut_string)
set_option linter.unusedVariables false

theorem own : ownKnob Try.prog.godebug = none := by kernel_rfl

theorem walk (a0 : Int) (a1 : ByteArray) (w0 : (Lit.int .i64 a0).wf = true) (w1 : a1.size ≤ maxLen) (w : World) :
    Calls Try.prog 3 #[.int .i64 a0, .string a1] w fun e w' => e = .returned (.bool true) ∧ Below w.heap.size w w' := by
  by_cases h1 : 1048576 < a1.size
  · have hm := w1
    unfold maxLen at hm
    go_enter Try.func3, Try.ntmps3
    go_wp2
    go_ret
    exact ⟨rfl, Below.refl _ _⟩
  have hm : (a1.size : Int) ≤ 1048576 := by omega
  clear h1
  obtain ⟨s, b, CS, CI⟩ : ∃ (s : ByteArray) (b : Bool), Hid (∀ w', Calls Try.prog 5 #[.int .i64 a0, .string a1] w' fun e w'' => e = .returned (.tuple #[.string s, .bool b]) ∧ Below w'.heap.size w' w'') ∧
      Hid (∀ w', Calls Try.prog 6 #[.int .i64 a0, .string a1] w' fun e w'' => e = .returned (.tuple #[.string s, .bool b]) ∧ Below w'.heap.size w' w'') := by
    by_cases h : kindB a0 = true ∧ rowOkB a1 = true
    · exact ⟨_, _, fun w' => specUnitOf a0 a1 w' h.1 h.2, fun w' => implUnitOf a0 a1 w' h.1 h.2⟩
    · have h' : kindB a0 = false ∨ rowOkB a1 = false := by
        cases hk : kindB a0
        · exact .inl rfl
        · refine .inr ?_
          cases hr : rowOkB a1
          · rfl
          · exact absurd ⟨hk, hr⟩ h
      exact ⟨_, _, fun w' => (specUnitOf_no a0 a1 w' w1 h').mono (fun e w'' q => ⟨q.1, by rw [q.2]; exact Below.refl _ _⟩), fun w' => implUnitOf_no a0 a1 w' w0 w1 h'⟩
  clear w0 w1
  go_enter Try.func3, Try.ntmps3
  go_wp2_with (first
    | (go_at_call 5; refine (CS.out _).mono ?_; rintro e w1 ⟨rfl, hb1⟩)
    | (go_at_call 6; refine (CI.out _).mono ?_; rintro e w2 ⟨rfl, hb2⟩))
  all_goals go_ret
  all_goals exact ⟨by simp, hb1.trans (hb2.mono hb1.size)⟩

set_option maxRecDepth 100000 in
theorem lifted (os : Os) (started : os.Started) (H : Type) (enc : TypeId × Value → H) :
    ReturnsInHanded {} Try.checked os 3 .any (Rows.fnExactUnitOfSpec.pre6 enc Try.prog Try.f3 Rows.fnExactUnitOfRow.domain false) (Rows.fnExactUnitOfSpec.post enc Try.prog Try.f3 false true false false) := by
  refine returnsInHanded_of_change (C := Try.checked) own started (by kernel_rfl) Try.func3
    (ChangeSpec.witness6 (enc := enc) (C := Try.checked) false ⟨#[], #[.int .i64 0, .string ByteArray.empty], []⟩ 8 (by kernel_rfl) (by kernel_rfl) (by kernel_rfl) (by kernel_rfl)) ?_
  intro W base args ds gs before hval0 hW hcnd _
  have hval : ∀ (j : Nat) t v, Try.f3.params[j]? = some t → args[j]? = some v → Value.okWide Try.prog W .any base t v := hval0
  have hW' := hW
  obtain ⟨p, q, hA0, hV, rfl, hfz, hnd⟩ := hW
  have hA : DataW.TrodAll enc Try.prog W 0 (fun _ => true) true Try.f3.params.toList args.toList ds p := hA0
  rw [Try.params3] at hA hval
  obtain ⟨v0, vs0, d0, ds0, p0, q0, hargs, rfl, rfl, h0, r0⟩ := trodAll_cons hA
  obtain ⟨v1, vs1, d1, ds1, p1, q1, rfl, rfl, rfl, h1, r1⟩ := trodAll_cons r0
  obtain ⟨rfl, rfl, rfl⟩ := trodAll_nil r1
  obtain rfl : args = #[v0, v1] := by cases args; simp_all
  obtain ⟨rfl, rfl⟩ := trodVars_none hV
  obtain ⟨a0, rfl, rfl, rfl, w0⟩ := open_int Try.underlying3 (hval 0 3 v0 rfl rfl) h0
  obtain ⟨a1, rfl, rfl, rfl, w1⟩ := open_string Try.underlying9 (hval 1 9 v1 rfl rfl) h1
  clear hA0 hval0
  refine (walk a0 a1 w0 w1 W).mono fun e W' ⟨he, hg⟩ => ?_
  subst he
  exact ⟨_, rfl, _, _, _, [], _, [], hW', (trodAll_cons_mk (shut_bool Try.underlying4 _) trodAll_mk0), (trodAll_cons_mk (shut_int Try.underlying3 w0) (trodAll_cons_mk (shut_string Try.underlying9 w1) trodAll_mk0)), rfl, hg.frame _, fun h => by cases h⟩

theorem over : Rows.fnExactUnitOfRow.holds Try.pinned (OpenSpec.ofChange Rows.fnExactUnitOfSpec) :=
  OpenClaim.holds_of_wide 3 Try.f3 rfl rfl rfl rfl rfl rfl rfl ⟨rfl, rfl, rfl, rfl, rfl⟩ rfl rfl rfl rfl rfl (by kernel_rfl) Try.func3 (by kernel_rfl)
    (of_decide_eq_true (by kernel_rfl)) (by unfold Func.isWrapper; first | (rw [if_pos (by decide +kernel)]; kernel_rfl) | (rw [if_neg (by decide +kernel)]; exact ⟨rfl, rfl⟩))
    (fun os started H enc _ => lifted os started H enc)

theorem proved : Rows.FnExactUnitOfSaid :=
  over
#print axioms proved
end Go.Proofs.Ytdokmojifkggjaa.fnExactUnitOf
