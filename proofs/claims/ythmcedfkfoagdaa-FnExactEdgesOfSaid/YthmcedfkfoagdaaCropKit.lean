/-
  The walks of impl's spanWithin, Pic.holds and Pic.dotsAt, and of spec.l12Within.
-/
import Derived.Test.YthmcedfkfoagdaaCropMath
import Derived.Test.YthmcedfkfoagdaaDotKit
namespace Go.Proofs.Ythmcedfkfoagdaa
open Go.RowKit
set_option linter.unusedVariables false
set_option maxRecDepth 20000

set_option maxHeartbeats 400000 in
theorem span_any (f s side : Int) (w : World) (h : 1 ≤ side ∧ side ≤ 256) (hs : -9223372036854775808 ≤ s ∧ s ≤ 9223372036854775807) : Calls Try.prog 74 #[.int .i64 f, .int .i64 s, .int .i64 side] w fun e w' => e = .returned (.bool (spanB f s side)) ∧ w' = w := by
  unfold spanB
  by_cases h1 : 0 ≤ f
  · by_cases h2 : 1 ≤ s
    · rw [show decide (0 ≤ f) = true by simpa using h1, show decide (1 ≤ s) = true by simpa using h2]
      go_enter Try.func74, Try.ntmps74
      go_wp2
      all_goals go_ret
      all_goals exact ⟨by simp, rfl⟩
    · rw [show decide (0 ≤ f) = true by simpa using h1, show decide (1 ≤ s) = false by simpa using h2]
      go_enter Try.func74, Try.ntmps74
      go_wp2
      all_goals go_ret
      all_goals exact ⟨by simp; try omega, rfl⟩
  · rw [show decide (0 ≤ f) = false by simpa using h1]
    go_enter Try.func74, Try.ntmps74
    go_wp2
    all_goals go_ret
    all_goals exact ⟨by simp; try omega, rfl⟩

set_option maxHeartbeats 800000 in
theorem holds_any (W H : Int) (s : ByteArray) (l t a b : Int) (w : World) (h1 : 1 ≤ W ∧ W ≤ 256) (h2 : 1 ≤ H ∧ H ≤ 256) (ha : -9223372036854775808 ≤ a ∧ a ≤ 9223372036854775807) (hb : -9223372036854775808 ≤ b ∧ b ≤ 9223372036854775807) :
    Calls Try.prog 54 #[picV W H s, rectW l t a b] w fun e w' => e = .returned (.bool (inRB W H l t a b)) ∧ Below w.heap.size w w' := by
  unfold inRB
  have C1 : Hid (∀ w', Calls Try.prog 74 #[.int .i64 l, .int .i64 a, .int .i64 W] w' (fun e w'' => e = .returned (.bool (spanB l a W)) ∧ w'' = w')) := fun w' => span_any l a W w' h1 ha
  have C2 : Hid (∀ w', Calls Try.prog 74 #[.int .i64 t, .int .i64 b, .int .i64 H] w' (fun e w'' => e = .returned (.bool (spanB t b H)) ∧ w'' = w')) := fun w' => span_any t b H w' h2 hb
  clear h1 h2 ha hb
  generalize spanB l a W = b1 at *
  generalize spanB t b H = b2 at *
  cases b1 with
  | false =>
    go_enter Try.func54, Try.ntmps54
    go_wp2_with (go_at_call 74; refine (C1.out _).mono ?_; rintro e w1 ⟨rfl, hw⟩; subst w1)
    go_ret
    exact ⟨rfl, by go_grown⟩
  | true =>
    go_enter Try.func54, Try.ntmps54
    go_wp2_with fail
    refine (C1.out _).mono ?_
    rintro e w1 ⟨rfl, hw⟩
    subst w1
    go_wp2_with (go_at_call 74; refine (C2.out _).mono ?_; rintro e w2 ⟨rfl, hw⟩; subst w2)
    go_ret
    exact ⟨rfl, by go_grown⟩

set_option maxHeartbeats 1600000 in
theorem within_any (W H : Int) (s : ByteArray) (l t a b : Int) (w : World) :
    Calls Try.prog 71 #[picV W H s, .int .i64 l, .int .i64 t, .int .i64 a, .int .i64 b] w fun e w' => e = .returned (.bool (picB W H s && inRB W H l t a b)) ∧ Below w.heap.size w w' := by
  have CO : Hid (∀ w', Calls Try.prog 72 #[picV W H s] w' (fun e w'' => e = .returned (.bool (picB W H s)) ∧ Below w'.heap.size w' w'')) := fun w' => specPicOk W H s w'
  have HP : Hid (picB W H s = true → (1 ≤ W ∧ W ≤ 256) ∧ (1 ≤ H ∧ H ≤ 256)) := fun h => ⟨(picB_iff.1 h).1, (picB_iff.1 h).2.1⟩
  generalize picB W H s = B at *
  have HR : Hid (inRB W H l t a b = ((decide (1 ≤ a) && decide (a ≤ W)) && (decide (1 ≤ b) && decide (b ≤ H)) && (decide (0 ≤ l) && decide (l ≤ W - a)) && (decide (0 ≤ t) && decide (t ≤ H - b)))) := by
    show _ = _
    rw [Bool.eq_iff_iff, inRB_iff]
    simp
    omega
  generalize inRB W H l t a b = R at *
  cases B with
  | false =>
    simp only [Bool.false_and]
    go_enter Try.func71, Try.ntmps71
    go_wp2_with (go_at_call 72; refine (CO.out _).mono ?_; rintro e w1 ⟨rfl, hc1⟩)
    go_ret
    exact ⟨rfl, ((Below.refl _ _).alloc (Nat.le_refl _) _).trans (hc1.mono (by simp))⟩
  | true =>
    obtain ⟨p1, p2⟩ := HP.out rfl
    simp only [Bool.true_and]
    clear HP
    go_enter Try.func71, Try.ntmps71
    go_wp2_with fail
    generalize hW : World.alloc w _ = V
    have B0 : Blk V w.heap.size #[.int .i64 W, .int .i64 H, .string s] 40 := by rw [← hW]; exact Blk.new w _ _
    have hb0 : Below w.heap.size w V := by rw [← hW]; exact (Below.refl _ _).alloc (Nat.le_refl _) _
    clear hW
    refine (CO.out V).mono ?_
    rintro e w1 ⟨rfl, hc⟩
    have B1 := B0.below hc B0.lt
    have hb1 := hb0.trans (hc.mono hb0.size)
    clear hc hb0 B0
    obtain ⟨⟨x0, x1, x2⟩, _⟩ := B1.three
    clear CO
    cases q1 : (decide (1 ≤ a) && decide (a ≤ W)) with
    | false =>
      obtain rfl : R = false := by rw [HR.out, q1]; rfl
      go_wp2_with (go_at_call 58; refine (in_any _ _ _ _).mono ?_; rintro e w2 ⟨rfl, hw⟩; subst w2; rw [q1])
      go_ret
      exact ⟨rfl, hb1⟩
    | true =>
      cases q2 : (decide (1 ≤ b) && decide (b ≤ H)) with
      | false =>
        obtain rfl : R = false := by rw [HR.out, q1, q2]; rfl
        go_wp2_with (go_at_call 58; refine (in_any _ _ _ _).mono ?_; rintro e w2 ⟨rfl, hw⟩; subst w2; first | rw [q1] | rw [q2])
        go_ret
        exact ⟨rfl, hb1⟩
      | true =>
        have a1 : 1 ≤ a ∧ a ≤ W := by simpa using q1
        have a2 : 1 ≤ b ∧ b ≤ H := by simpa using q2
        cases q3 : (decide (0 ≤ l) && decide (l ≤ W - a)) with
        | false =>
          obtain rfl : R = false := by rw [HR.out, q1, q2, q3]; rfl
          go_wp2_with (go_at_call 58; refine (in_any _ _ _ _).mono ?_; rintro e w2 ⟨rfl, hw⟩; subst w2; first | rw [q1] | rw [q2] | rw [q3])
          go_ret
          exact ⟨rfl, hb1⟩
        | true =>
          obtain rfl : R = (decide (0 ≤ t) && decide (t ≤ H - b)) := by rw [HR.out, q1, q2, q3]; rfl
          clear HR
          cases q4 : (decide (0 ≤ t) && decide (t ≤ H - b)) with
          | false =>
            go_wp2_with (go_at_call 58; refine (in_any _ _ _ _).mono ?_; rintro e w2 ⟨rfl, hw⟩; subst w2; first | rw [q1] | rw [q2] | rw [q3] | rw [q4])
            go_ret
            exact ⟨by rw [q4]; rfl, hb1⟩
          | true =>
            go_wp2_with (go_at_call 58; refine (in_any _ _ _ _).mono ?_; rintro e w2 ⟨rfl, hw⟩; subst w2; first | rw [q1] | rw [q2] | rw [q3] | rw [q4])
            go_ret
            exact ⟨by rw [q4]; rfl, hb1⟩
end Go.Proofs.Ythmcedfkfoagdaa
