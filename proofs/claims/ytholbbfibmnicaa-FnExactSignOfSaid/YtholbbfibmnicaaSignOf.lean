/-
  At every two integers impl.SignOf answers as the model does: the law laws.FnExactSignOf returns true whatever its arguments, and what was there before stands. No condition.
-/
import Derived.Test.YtholbbfibmnicaaRows
import Derived.Test.YtholbbfibmnicaaSignWalk
import Derived.WalkKit
import Derived.ProofKit
import Derived.OpenShut
import Derived.ShutString
namespace Go.Proofs.Ytholbbfibmnicaa.fnExactSignOf
open Go.ChangeShapes Go.WideShapes Go.ChangeAt Go.RowKit
open Go.ChangeMaps (open_string shut_string)
set_option linter.unusedVariables false

theorem own : ownKnob Try.prog.godebug = none := by kernel_rfl

theorem walk (a0 : Int) (a1 : Int) (w0 : (Lit.int .i64 a0).wf = true) (w1 : (Lit.int .i64 a1).wf = true) (w : World) :
    Calls Try.prog 8 #[.int .i64 a0, .int .i64 a1] w fun e w' => e = .returned (.bool true) ∧ Below w.heap.size w w' := by
  by_cases h : (0 ≤ a0 ∧ a0 < 8) ∧ 0 ≤ a1 ∧ a1 < 8
  · obtain ⟨i, rfl⟩ : ∃ i : Nat, a0 = (i : Int) := ⟨a0.toNat, by omega⟩
    obtain ⟨k, rfl⟩ : ∃ k : Nat, a1 = (k : Int) := ⟨a1.toNat, by omega⟩
    have hi : i < 8 := by omega
    have hk : k < 8 := by omega
    have HS : Hid (Calls Try.prog 28 #[.int .i64 (i : Int), .int .i64 (k : Int)] w _) := specSign i k w hi hk
    have HI : Hid (∀ w', Calls Try.prog 21 #[.int .i64 (i : Int), .int .i64 (k : Int)] w' (fun e w'' => e = .returned (.int .i64 (sg i k)) ∧ w'' = w')) := fun w' => implSign i k w' hi hk
    clear h
    generalize sg i k = x at *
    go_enter Try.func8, Try.ntmps8
    go_wp2_with (first
      | (go_at_call 28; refine HS.out.mono ?_; rintro e w2 ⟨rfl, hw⟩; subst w2)
      | (go_at_call 21; refine (HI.out _).mono ?_; rintro e w3 ⟨rfl, hw⟩; subst w3))
    go_ret
    exact ⟨rfl, Below.refl _ _⟩
  · have HS : Hid (Calls Try.prog 28 #[.int .i64 a0, .int .i64 a1] w _) := specSign_no a0 a1 w h
    have HI : Hid (∀ w', Calls Try.prog 21 #[.int .i64 a0, .int .i64 a1] w' (fun e w'' => e = .returned (.int .i64 0) ∧ w'' = w')) := fun w' => implSign_no a0 a1 w' h
    clear h
    go_enter Try.func8, Try.ntmps8
    go_wp2_with (first
      | (go_at_call 28; refine HS.out.mono ?_; rintro e w2 ⟨rfl, hw⟩; subst w2)
      | (go_at_call 21; refine (HI.out _).mono ?_; rintro e w3 ⟨rfl, hw⟩; subst w3))
    go_ret
    exact ⟨rfl, Below.refl _ _⟩

set_option maxRecDepth 100000 in
theorem lifted (os : Os) (started : os.Started) (H : Type) (enc : TypeId × Value → H) :
    ReturnsInHanded {} Try.checked os 8 .any (Rows.fnExactSignOfSpec.pre6 enc Try.prog Try.f8 Rows.fnExactSignOfRow.domain false) (Rows.fnExactSignOfSpec.post enc Try.prog Try.f8 false true false false) := by
  refine returnsInHanded_of_change (C := Try.checked) own started (by kernel_rfl) Try.func8
    (ChangeSpec.witness6 (enc := enc) (C := Try.checked) false ⟨#[], #[.int .i64 0, .int .i64 0], []⟩ 8 (by kernel_rfl) (by kernel_rfl) (by kernel_rfl) (by kernel_rfl)) ?_
  intro W base args ds gs before hval0 hW hcnd _
  have hval : ∀ (j : Nat) t v, Try.f8.params[j]? = some t → args[j]? = some v → Value.okWide Try.prog W .any base t v := hval0
  have hW' := hW
  obtain ⟨p, q, hA0, hV, rfl, hfz, hnd⟩ := hW
  have hA : DataW.TrodAll enc Try.prog W 0 (fun _ => true) true Try.f8.params.toList args.toList ds p := hA0
  rw [Try.params8] at hA hval
  obtain ⟨v0, vs0, d0, ds0, p0, q0, hargs, rfl, rfl, h0, r0⟩ := trodAll_cons hA
  obtain ⟨v1, vs1, d1, ds1, p1, q1, rfl, rfl, rfl, h1, r1⟩ := trodAll_cons r0
  obtain ⟨rfl, rfl, rfl⟩ := trodAll_nil r1
  obtain rfl : args = #[v0, v1] := by cases args; simp_all
  obtain ⟨rfl, rfl⟩ := trodVars_none hV
  obtain ⟨a0, rfl, rfl, rfl, w0⟩ := open_int Try.underlying3 (hval 0 3 v0 rfl rfl) h0
  obtain ⟨a1, rfl, rfl, rfl, w1⟩ := open_int Try.underlying3 (hval 1 3 v1 rfl rfl) h1
  clear hA0 hval0
  refine (walk a0 a1 w0 w1 W).mono fun e W' ⟨he, hg⟩ => ?_
  subst he
  exact ⟨_, rfl, _, _, _, [], _, [], hW', (trodAll_cons_mk (shut_bool Try.underlying4 _) trodAll_mk0), (trodAll_cons_mk (shut_int Try.underlying3 w0) (trodAll_cons_mk (shut_int Try.underlying3 w1) trodAll_mk0)), rfl, hg.frame _, fun h => by cases h⟩

theorem over : Rows.fnExactSignOfRow.holds Try.pinned (OpenSpec.ofChange Rows.fnExactSignOfSpec) :=
  OpenClaim.holds_of_wide 8 Try.f8 rfl rfl rfl rfl rfl rfl rfl ⟨rfl, rfl, rfl, rfl, rfl⟩ rfl rfl rfl rfl rfl (by kernel_rfl) Try.func8 (by kernel_rfl)
    (of_decide_eq_true (by kernel_rfl)) (by unfold Func.isWrapper; first | (rw [if_pos (by decide +kernel)]; kernel_rfl) | (rw [if_neg (by decide +kernel)]; exact ⟨rfl, rfl⟩))
    (fun os started H enc _ => lifted os started H enc)

theorem proved : Rows.FnExactSignOfSaid :=
  over
#print axioms proved
end Go.Proofs.Ytholbbfibmnicaa.fnExactSignOf
