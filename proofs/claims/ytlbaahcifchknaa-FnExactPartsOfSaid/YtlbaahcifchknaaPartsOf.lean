/-
  At every line impl.PartsOf answers as the model does, in memory of its own that no later call writes: the law laws.FnExactPartsOf returns true whatever its argument, and what was there before stands. No condition.
-/
import Derived.Test.YtlbaahcifchknaaRows
import Derived.Test.YtlbaahcifchknaaPaLaw
import Derived.WalkKit
import Derived.ProofKit
import Derived.OpenShut
import Derived.ShutString
namespace Go.Proofs.Ytlbaahcifchknaa.fnExactPartsOf
open Go.ChangeShapes Go.WideShapes Go.ChangeAt Go.RowKit
open Go.ChangeMaps (open_string shut_string)
set_option linter.unusedVariables false

theorem own : ownKnob Try.prog.godebug = none := by kernel_rfl

theorem walk (a0 : ByteArray) (w0 : a0.size ≤ maxLen) (w : World) :
    Calls Try.prog 5 #[.string a0] w fun e w' => e = .returned (.bool true) ∧ Below w.heap.size w w' := by
  have hm := w0
  unfold maxLen at hm
  by_cases h1 : 1048576 < a0.size
  · go_enter Try.func5, Try.ntmps5
    go_wp2
    go_ret
    exact ⟨rfl, Below.refl _ _⟩
  · obtain ⟨L, hL⟩ : ∃ L, L = partsR a0.data.toList := ⟨_, rfl⟩
    obtain ⟨b, hbv⟩ : ∃ b, b = partsOk a0.data.toList := ⟨_, rfl⟩
    have hlen : L.length ≤ 12 := by rw [hL]; exact partsR_len _
    have htl := textsOf_length L
    have S11 : Hid (∀ W, Calls Try.prog 11 #[.string a0] W fun e w' => ∃ v, e = .returned (.tuple #[v, .bool b]) ∧ w'.ownsRow W.heap.size 9 1 v L.length (strsOf L) ∧ Below W.heap.size W w') := fun W => by
      rw [hL, hbv]; exact specParts_any a0 W w0
    have S12 : Hid (∀ W, Calls Try.prog 12 #[.string a0] W fun e w' => ∃ v, e = .returned (.tuple #[v, .bool b]) ∧ w'.ownsRow W.heap.size 9 1 v L.length (strsOf L) ∧ Below W.heap.size W w') := fun W => by
      rw [hL, hbv]; exact implParts a0 W w0
    clear hL hbv w0
    go_enter Try.func5, Try.ntmps5
    go_wp2_with fail
    refine (S11.out _).mono ?_
    rintro e w1 ⟨v0, rfl, ho0, hb1⟩
    go_wp2_with fail
    refine (S12.out _).mono ?_
    rintro e w2 ⟨v1, rfl, ho1, hb2⟩
    have r0 := (owns_textRow ho0).below hb2 (Nat.le_refl _)
    have r1 := owns_textRow ho1
    go_wp2_with fail
    refine (eqStringS_any v1 v0 _ _ r1 r0 (by omega)).mono ?_
    rintro e w3 ⟨rfl, hb3⟩
    have ho1' := owns_below ho1 hb3 (Nat.le_refl _)
    have r0' := r0.below hb3 (Nat.le_refl _)
    go_wp2_with fail
    refine (markStringS_any v1 L.length _ _ _ ho1' (by omega)).mono ?_
    rintro e w4 ⟨rfl, ho1m, hg4⟩
    have r0m := r0'.grown (B := w1.heap.size) (fun g hg => .inr (by have := (ho0.lt g hg).2; omega)) ho1' hg4
    have r1m := textRow_of_owns ho1m
    go_wp2_with fail
    refine (heldStringS_any v1 L.length _ r1m (by omega)).mono ?_
    rintro e w5 ⟨rfl, hb5⟩
    have r0n := r0m.below hb5 (Nat.le_refl _)
    have r1n := r1m.below hb5 (Nat.le_refl _)
    go_wp2_with fail
    refine (S12.out _).mono ?_
    rintro e w6 ⟨v2, rfl, ho2, hb6⟩
    have r0o := r0n.below hb6 (Nat.le_refl _)
    have r1o := r1n.below hb6 (Nat.le_refl _)
    go_wp2_with fail
    refine (eqStringS_any v2 v0 _ _ (owns_textRow ho2) r0o (by omega)).mono ?_
    rintro e w7 ⟨rfl, hb7⟩
    have r1p := r1o.below hb7 (Nat.le_refl _)
    go_wp2_with fail
    refine (heldStringS_any v1 L.length _ r1p (by omega)).mono ?_
    rintro e w8 ⟨rfl, hb8⟩
    go_wp2
    go_ret
    refine ⟨rfl, ?_⟩
    have s1 := hb1.size
    have s2 := hb2.size
    have s3 := hb3.size
    have s5 := hb5.size
    have s6 := hb6.size
    have s7 := hb7.size
    have s4 := hg4.size
    have b3 : Below w.heap.size w w3 := (hb1.trans (hb2.mono s1)).trans (hb3.mono (by omega))
    have b4 : Below w.heap.size w w4 := b3.grown hg4 (by omega) (fun j hj => by have := (ho1'.lt j hj).1; omega)
    exact (((b4.trans (hb5.mono (by omega))).trans (hb6.mono (by omega))).trans (hb7.mono (by omega))).trans (hb8.mono (by omega))

set_option maxRecDepth 100000 in
theorem lifted (os : Os) (started : os.Started) (H : Type) (enc : TypeId × Value → H) :
    ReturnsInHanded {} Try.checked os 5 .any (Rows.fnExactPartsOfSpec.pre6 enc Try.prog Try.f5 Rows.fnExactPartsOfRow.domain false) (Rows.fnExactPartsOfSpec.post enc Try.prog Try.f5 false true false false) := by
  refine returnsInHanded_of_change (C := Try.checked) own started (by kernel_rfl) Try.func5
    (ChangeSpec.witness6 (enc := enc) (C := Try.checked) false ⟨#[], #[.string ByteArray.empty], []⟩ 8 (by kernel_rfl) (by kernel_rfl) (by kernel_rfl) (by kernel_rfl)) ?_
  intro W base args ds gs before hval0 hW hcnd _
  have hval : ∀ (j : Nat) t v, Try.f5.params[j]? = some t → args[j]? = some v → Value.okWide Try.prog W .any base t v := hval0
  have hW' := hW
  obtain ⟨p, q, hA0, hV, rfl, hfz, hnd⟩ := hW
  have hA : DataW.TrodAll enc Try.prog W 0 (fun _ => true) true Try.f5.params.toList args.toList ds p := hA0
  rw [Try.params5] at hA hval
  obtain ⟨v0, vs0, d0, ds0, p0, q0, hargs, rfl, rfl, h0, r0⟩ := trodAll_cons hA
  obtain ⟨rfl, rfl, rfl⟩ := trodAll_nil r0
  obtain rfl : args = #[v0] := by cases args; simp_all
  obtain ⟨rfl, rfl⟩ := trodVars_none hV
  obtain ⟨a0, rfl, rfl, rfl, w0⟩ := open_string Try.underlying9 (hval 0 9 v0 rfl rfl) h0
  clear hA0 hval0
  refine (walk a0 w0 W).mono fun e W' ⟨he, hg⟩ => ?_
  subst he
  exact ⟨_, rfl, _, _, _, [], _, [], hW', (trodAll_cons_mk (shut_bool Try.underlying4 _) trodAll_mk0), (trodAll_cons_mk (shut_string Try.underlying9 w0) trodAll_mk0), rfl, hg.frame _, fun h => by cases h⟩

theorem over : Rows.fnExactPartsOfRow.holds Try.pinned (OpenSpec.ofChange Rows.fnExactPartsOfSpec) :=
  OpenClaim.holds_of_wide 5 Try.f5 rfl rfl rfl rfl rfl rfl rfl ⟨rfl, rfl, rfl, rfl, rfl⟩ rfl rfl rfl rfl rfl (by kernel_rfl) Try.func5 (by kernel_rfl)
    (of_decide_eq_true (by kernel_rfl)) (by unfold Func.isWrapper; first | (rw [if_pos (by decide +kernel)]; kernel_rfl) | (rw [if_neg (by decide +kernel)]; exact ⟨rfl, rfl⟩))
    (fun os started H enc _ => lifted os started H enc)

theorem proved : Rows.FnExactPartsOfSaid :=
  over
#print axioms proved
end Go.Proofs.Ytlbaahcifchknaa.fnExactPartsOf
