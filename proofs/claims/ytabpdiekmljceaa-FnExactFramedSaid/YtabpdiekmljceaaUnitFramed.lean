/-
  At every list of texts impl.Framed answers as the model does, and leaves its argument as it was: the law laws.FnExactFramed returns true whatever its argument, and what was there before stands.
-/
import Derived.Test.YtabpdiekmljceaaUnitFrame
import Derived.ProofKit
import Derived.OpenShut
import Derived.ChangeOld
import Derived.SliceStrings
import Derived.Below
namespace Go.Proofs.Ytabpdiekmljceaa.fnExactFramed
open Go.ChangeShapes Go.WideShapes Go.ChangeAt Go.RowKit
set_option linter.unusedVariables false

theorem own : ownKnob Try.prog.godebug = none := by kernel_rfl
theorem laidOut : laidOutB Try.prog = true := by kernel_rfl
theorem cells9 : Try.prog.cellsOf 9 = 1 := by kernel_rfl
theorem texts_of_owns {w : World} {B n : Nat} {v : Value} {xs : List ByteArray} (h : w.ownsRow B 9 1 v n (xs.map Value.string)) : ∃ a c, v = .slice a xs.length c ∧ Texts w a xs := by
  rcases textRow_of_owns h with ⟨a, c, rfl, rfl⟩ | ⟨g, c, rfl, hg, hc⟩
  · exact ⟨a, c, rfl, .inl rfl⟩
  · exact ⟨_, c, rfl, .inr ⟨g, 0, rfl, hg, fun i hi => by rw [Nat.zero_add]; exact hc i hi⟩⟩

set_option maxHeartbeats 1600000 in
theorem walk (a : Option Addr) (cap : Nat) (xs : List ByteArray) (w : World) (ht : Texts w a xs) (hl : xs.length ≤ maxLen) (hx : ∀ x ∈ xs, x.size ≤ maxLen) :
    Calls Try.prog 6 #[.slice a xs.length cap] w fun e w' => e = .returned (.bool true) ∧ Below w.heap.size w w' := by
  obtain ⟨t, b, HV⟩ : ∃ t b, Hid (framedV xs = .tuple #[.string t, .bool b]) := by
    unfold framedV
    cases h : framed (xs.map nums) with
    | none => exact ⟨_, _, rfl⟩
    | some l => exact ⟨_, _, rfl⟩
  have HT : Hid (Texts w a xs) := ht
  have HX : Hid (∀ x ∈ xs, x.size ≤ maxLen) := hx
  have HL : Hid (xs.length ≤ maxLen) := hl
  obtain ⟨n, hn⟩ : ∃ n, n = xs.length := ⟨_, rfl⟩
  have csz : Hid (∀ w', Below w.heap.size w w' → Calls Try.prog 13 #[.slice a n cap, .int .i64 1048576] w' fun e w'' => ∃ r : Int, e = .returned (.int .i64 r) ∧ (r < 0 ∨ (0 ≤ r ∧ n ≤ 1048576)) ∧ Below w'.heap.size w' w'') := fun w' hb => by
    rw [hn]
    refine (szStringS_any a cap xs w' (ht.below hb (Nat.le_refl _)) hl hx).mono ?_
    rintro e w'' ⟨r, rfl, hr, hb'⟩
    exact ⟨r, rfl, hr.imp id (fun h => ⟨h.1, h.2.1⟩), hb'⟩
  have cto : n ≤ 1048576 → ∀ w', Below w.heap.size w w' → Calls Try.prog 15 #[.slice a n cap] w' fun e w'' => ∃ a' c', e = .returned (.slice a' n c') ∧ Hid (TextRow w'' (.slice a' n c') xs) ∧ Hid (Texts w'' a' xs) ∧ Below w'.heap.size w' w'' := fun h w' hb => by
    rw [hn]
    refine (toStringS_any a cap xs w' (ht.below hb (Nat.le_refl _)) (hn ▸ h)).mono ?_
    rintro e w'' ⟨v, rfl, ho, hb'⟩
    obtain ⟨a', c', rfl, ht'⟩ := texts_of_owns ho
    exact ⟨a', c', rfl, textRow_of_owns ho, ht', hb'⟩
  have cs : n ≤ 1048576 → ∀ w' a' c', Texts w' a' xs → Calls Try.prog 14 #[.slice a' n c'] w' fun e w'' => e = .returned (.tuple #[.string t, .bool b]) ∧ Below w'.heap.size w' w'' := fun h w' a' c' ht' => by
    rw [hn, ← HV.out]; exact specFramed a' c' xs w' ht' (hn ▸ h)
  have ci : n ≤ 1048576 → ∀ w' a' c', Texts w' a' xs → Calls Try.prog 16 #[.slice a' n c'] w' fun e w'' => e = .returned (.tuple #[.string t, .bool b]) ∧ Below w'.heap.size w' w'' := fun h w' a' c' ht' => by
    rw [hn, ← HV.out]; exact implFramed a' c' xs w' ht' (hn ▸ h)
  have ce : n ≤ 1048576 → ∀ w' v1 v2, TextRow w' v1 xs → TextRow w' v2 xs → Calls Try.prog 17 #[v1, v2] w' fun e w'' => e = .returned (.bool true) ∧ Below w'.heap.size w' w'' := fun h w' v1 v2 h1 h2 => eqStringS_any v1 v2 xs w' h1 h2 (by omega)
  have CT : Hid _ := cto
  have CS : Hid _ := cs
  have CI : Hid _ := ci
  have CE : Hid _ := ce
  rw [← hn]
  clear hn hx hl ht HV cto cs ci ce HX HL HT
  have hb0 := Below.refl w.heap.size w
  go_enter Try.func6, Try.ntmps6
  go_wp2_with fail
  refine (csz.out w hb0).mono ?_
  rintro e w1 ⟨r, rfl, hr | ⟨hr, hn⟩, hb1⟩
  · go_wp2
    go_ret
    exact ⟨rfl, hb1⟩
  · go_wp2_with (first
      | (go_at_call 15; refine (CT.out hn w1 hb1).mono ?_; rintro e w2 ⟨a2, c2, rfl, R2, T2, hc2⟩; have hb2 := hb1.trans (hc2.mono hb1.size); clear hb1)
      | (go_at_call 14; refine (CS.out hn w2 a2 c2 T2.out).mono ?_; rintro e w3 ⟨rfl, hc3⟩; have hb3 := hb2.trans (hc3.mono hb2.size); clear hb2)
      | (go_at_call 15; refine (CT.out hn w3 hb3).mono ?_; rintro e w4 ⟨a4, c4, rfl, R4, T4, hc4⟩; have hb4 := hb3.trans (hc4.mono hb3.size); clear hb3)
      | (go_at_call 16; refine (CI.out hn w4 a4 c4 T4.out).mono ?_; rintro e w5 ⟨rfl, hc5⟩; have hb5 := hb4.trans (hc5.mono hb4.size); clear hb4)
      | (go_at_call 15; refine (CT.out hn w5 hb5).mono ?_; rintro e w6 ⟨a6, c6, rfl, R6, T6, hc6⟩; have hb6 := hb5.trans (hc6.mono hb5.size); clear hb5)
      | (go_at_call 17; refine (CE.out hn w6 _ _ ((R4.out.below hc5 (Nat.le_refl _)).below hc6 (Nat.le_refl _)) R6.out).mono ?_; rintro e w7 ⟨rfl, hc7⟩; have hb7 := hb6.trans (hc7.mono hb6.size); clear hb6))
    go_ret
    exact ⟨rfl, hb7⟩

set_option maxRecDepth 100000 in
theorem lifted (os : Os) (started : os.Started) (H : Type) (enc : TypeId × Value → H) :
    ReturnsInHanded {} Try.checked os 6 .any (Rows.fnExactFramedSpec.pre6 enc Try.prog Try.f6 Rows.fnExactFramedRow.domain false) (Rows.fnExactFramedSpec.post enc Try.prog Try.f6 false true false false) := by
  refine returnsInHanded_of_change (C := Try.checked) own started (by kernel_rfl) Try.func6
    (ChangeSpec.witness6 (enc := enc) (C := Try.checked) false ⟨#[], #[.slice none 0 0], []⟩ 8 (by kernel_rfl) (by kernel_rfl) (by kernel_rfl) (by kernel_rfl)) ?_
  intro W base args ds gs before hval0 hW hcnd _
  have hval : ∀ (j : Nat) t v, Try.f6.params[j]? = some t → args[j]? = some v → Value.okWide Try.prog W .any base t v := hval0
  have hW' := hW
  obtain ⟨p, q, hA0, hV, rfl, hfz, hnd⟩ := hW
  have hA : DataW.TrodAll enc Try.prog W 0 (fun _ => true) true Try.f6.params.toList args.toList ds p := hA0
  rw [Try.params6] at hA hval
  obtain ⟨v0, d0, rfl, rfl, h0⟩ := trodAll_one hA
  obtain ⟨rfl, rfl⟩ := trodVars_none hV
  obtain ⟨a0, len0, cap0, rfl⟩ := okWide_slice Try.underlying24 (hval 0 24 v0 rfl rfl)
  have k0 := h0
  have lt0 : ∀ x ∈ p, x.block < W.heap.size := by obtain ⟨m, hm⟩ := k0; exact DataW.trod_lt m _ _ _ hm
  obtain ⟨xs, rfl, w1, w2, w3⟩ : ∃ xs : List ByteArray, len0 = xs.length ∧ Texts W a0 xs ∧ xs.length ≤ maxLen ∧ ∀ x ∈ xs, x.size ≤ maxLen := by
    obtain ⟨fuel, hf⟩ := h0
    rcases open_strings Try.underlying24 Try.underlying9 cells9 hf with ⟨hcs, _⟩ | ⟨x, l, c, ss, hcs, _, hl, hm, hz, _, hcell, hws⟩
    · simp [Value.cells] at hcs
      obtain ⟨rfl, rfl, rfl⟩ := hcs
      exact ⟨[], rfl, .inl rfl, by simp, by simp⟩
    · simp [Value.cells] at hcs
      obtain ⟨rfl, rfl, rfl⟩ := hcs
      have hz' : ss.length = cap0 := by simpa using hz
      have hlen : (ss.take len0).length = len0 := by rw [List.length_take]; omega
      refine ⟨ss.take len0, hlen.symm, ?_, by omega, fun y hy => hws y (List.mem_of_mem_take hy)⟩
      by_cases h00 : len0 = 0
      · left; rw [h00]; rfl
      · right
        obtain ⟨b, off, spot⟩ := x
        have hc := hcell 0 (by omega)
        have hspot : spot = none := by simpa [Addr.add] using World.cell?_spot hc
        subst hspot
        have hc0 : W.cell? ⟨b, off, none⟩ = some (.string (ss.getD 0 ByteArray.empty)) := by simpa [Addr.add] using hc
        refine ⟨b, off, rfl, World.block_lt_of_cell? W _ hc0, fun j hj => ?_⟩
        rw [hlen] at hj
        have hadd : (⟨b, off, none⟩ : Addr).add j = ⟨b, off + j, none⟩ := by unfold Addr.add; split <;> simp_all
        rw [← hadd, hcell j (by omega)]
        simp [List.getD, hj]
  clear hA0 hval0
  refine (walk a0 cap0 xs W w1 w2 w3).mono fun e W' ⟨he, hg⟩ => ?_
  subst he
  exact ⟨_, rfl, _, _, _, [], _, [], hW', trodAll_mk1 (shut_bool Try.underlying4 _), trodAll_mk1 (Below.trod laidOut (by kernel_rfl) (of_decide_eq_true (by kernel_rfl)) k0 hg lt0), rfl, hg.frame _, fun h => by cases h⟩

theorem over : Rows.fnExactFramedRow.holds Try.pinned (OpenSpec.ofChange Rows.fnExactFramedSpec) :=
  OpenClaim.holds_of_wide 6 Try.f6 rfl rfl rfl rfl rfl rfl rfl ⟨rfl, rfl, rfl, rfl, rfl⟩ rfl rfl rfl rfl rfl (by kernel_rfl) Try.func6 (by kernel_rfl)
    (of_decide_eq_true (by kernel_rfl)) (by unfold Func.isWrapper; first | (rw [if_pos (by decide +kernel)]; kernel_rfl) | (rw [if_neg (by decide +kernel)]; exact ⟨rfl, rfl⟩))
    (fun os started H enc _ => lifted os started H enc)

theorem proved : Rows.FnExactFramedSaid :=
  over
#print axioms proved
end Go.Proofs.Ytabpdiekmljceaa.fnExactFramed
