/-
  Which edges are right, of both: the walks of impl.edgeOk, impl.EdgesOk, spec.l13Side and spec.EdgesOk.
-/
import Derived.Test.YtkakiollhhmmaaaEdgeMath
import Derived.Test.YtkakiollhhmmaaaEdgeKit
import Derived.Test.YtkakiollhhmmaaaDotsKit
import Derived.Test.YtkakiollhhmmaaaInKit
namespace Go.Proofs.Ytkakiollhhmmaaa
open Go.RowKit
set_option linter.unusedVariables false
set_option maxRecDepth 20000

set_option maxHeartbeats 800000 in
theorem edgeOk_any (a : Option Addr) (cap : Nat) (xs : List Int) (w : World) (h : Ints w a xs) (hl : xs.length ≤ maxLen) :
    Calls Try.prog 43 #[.slice a xs.length cap] w fun e w' => e = .returned (.bool (edgeB xs)) ∧ Below w.heap.size w w' := by
  have HC : Hid (Calls Try.prog 44 #[.slice a xs.length cap] w fun e w' => e = .returned (.bool (dotsB xs)) ∧ Below w.heap.size w w') := allDots_any a cap xs w h hl
  unfold maxLen at hl
  clear h
  by_cases h0 : xs.length = 0
  · obtain rfl := List.eq_nil_of_length_eq_zero h0
    clear HC h0
    go_enter Try.func43, Try.ntmps43
    go_wp2
    go_ret
    exact ⟨rfl, Below.refl _ _⟩
  · by_cases h8 : xs.length = 8
    · have HE : Hid (edgeB xs = dotsB xs) := by show _ = _; unfold edgeB; rw [h8]; rfl
      rw [h8] at HC ⊢
      generalize dotsB xs = D at *
      clear h0 h8 hl
      go_enter Try.func43, Try.ntmps43
      go_wp2_with (go_at_call 44; refine HC.out.mono ?_; rintro e w1 ⟨rfl, hb⟩)
      go_ret
      exact ⟨by rw [HE.out]; rfl, hb⟩
    · have HE : Hid (edgeB xs = false) := edgeB_no (by omega)
      have q0 : ((xs.length : Int) == 0) = false := by rw [beq_eq_false_iff_ne]; omega
      have q1 : ((xs.length : Int) == 8) = false := by rw [beq_eq_false_iff_ne]; omega
      have q2 : (xs.length == 8) = false := by rw [beq_eq_false_iff_ne]; omega
      have q3 : (xs.length == 0) = false := by rw [beq_eq_false_iff_ne]; omega
      have q4 : ¬ (xs.length : Int) = 0 := by omega
      have q5 : ¬ (xs.length : Int) = 8 := by omega
      clear HC
      go_enter Try.func43, Try.ntmps43
      go_wp2
      go_ret
      exact ⟨by rw [HE.out]; rfl, Below.refl _ _⟩

set_option maxHeartbeats 1600000 in
theorem implEdgesOk (a1 a2 : Option Addr) (c1 c2 : Nat) (xs ys : List Int) (c : Int) (w : World) (h1 : Ints w a1 xs) (h2 : Ints w a2 ys) (m1 : xs.length ≤ maxLen) (m2 : ys.length ≤ maxLen) :
    Calls Try.prog 25 #[edgV a1 xs.length c1 a2 ys.length c2 c] w fun e w' => e = .returned (.bool (edgesB xs ys c)) ∧ Below w.heap.size w w' := by
  have H1 : Hid (∀ w', Below w.heap.size w w' → Calls Try.prog 43 #[.slice a1 xs.length c1] w' fun e w'' => e = .returned (.bool (edgeB xs)) ∧ Below w'.heap.size w' w'') := fun w' hb => edgeOk_any a1 c1 xs w' (h1.below hb (Nat.le_refl _)) m1
  have H2 : Hid (∀ w', Below w.heap.size w w' → Calls Try.prog 43 #[.slice a2 ys.length c2] w' fun e w'' => e = .returned (.bool (edgeB ys)) ∧ Below w'.heap.size w' w'') := fun w' hb => edgeOk_any a2 c2 ys w' (h2.below hb (Nat.le_refl _)) m2
  have HE : Hid (edgesB xs ys c = (edgeB xs && edgeB ys && (decide (-1 ≤ c) && decide (c ≤ 255)))) := rfl
  generalize edgesB xs ys c = E at *
  generalize edgeB xs = X at *
  generalize edgeB ys = Y at *
  clear h1 h2 m1 m2
  generalize xs.length = n1 at *
  generalize ys.length = n2 at *
  go_enter Try.func25, Try.ntmps25
  go_wp2_with fail
  have B0 := Blk.new w #[.slice a1 n1 c1, .slice a2 n2 c2, .int .i64 c] 26
  have hb0 := (Below.refl w.heap.size w).alloc (Nat.le_refl _) (.cells #[.slice a1 n1 c1, .slice a2 n2 c2, .int .i64 c] 26)
  generalize World.alloc w _ = W at *
  refine (H1.out W hb0).mono ?_
  rintro e w1 ⟨rfl, hb⟩
  have hb1 := hb0.trans (hb.mono hb0.size)
  have B1 := B0.below hb B0.lt
  clear hb hb0 B0
  rcases X with _ | _
  · have HV : Hid (E = false) := by show _ = _; rw [HE.out]; rfl
    clear B1
    go_wp2
    go_ret
    exact ⟨by rw [HV.out]; first | rfl | (simp; done) | (simp; omega), hb1⟩
  obtain ⟨⟨x0, x1, x2⟩, _⟩ := B1.three
  go_wp2_with fail
  refine (H2.out w1 hb1).mono ?_
  rintro e w2 ⟨rfl, hb⟩
  have hb2 := hb1.trans (hb.mono hb1.size)
  have B2 := B1.below hb B1.lt
  clear hb hb1 B1 x0 x1 x2
  rcases Y with _ | _
  · have HV : Hid (E = false) := by show _ = _; rw [HE.out]; rfl
    clear B2
    go_wp2
    go_ret
    exact ⟨by rw [HV.out]; first | rfl | (simp; done) | (simp; omega), hb2⟩
  obtain ⟨⟨x0, x1, x2⟩, _⟩ := B2.three
  clear B2
  by_cases k0 : -1 ≤ c
  · by_cases k1 : c ≤ 255
    · have HV : Hid (E = true) := by show _ = _; rw [HE.out]; simp [k0, k1]
      go_wp2
      go_ret
      exact ⟨by rw [HV.out]; first | rfl | (simp; done) | (simp; omega), hb2⟩
    · have HV : Hid (E = false) := by show _ = _; rw [HE.out]; simp; omega
      go_wp2
      go_ret
      exact ⟨by rw [HV.out]; first | rfl | (simp; done) | (simp; omega), hb2⟩
  · have HV : Hid (E = false) := by show _ = _; rw [HE.out]; simp; omega
    go_wp2
    go_ret
    exact ⟨by rw [HV.out]; first | rfl | (simp; done) | (simp; omega), hb2⟩

set_option maxHeartbeats 800000 in
theorem l13Side_any (a : Option Addr) (cap : Nat) (xs : List Int) (w : World) (h : Ints w a xs) (hl : xs.length ≤ maxLen) :
    Calls Try.prog 41 #[.slice a xs.length cap] w fun e w' => e = .returned (.bool (edgeB xs)) ∧ Below w.heap.size w w' := by
  have H : Hid (Ints w a xs) := h
  unfold maxLen at hl
  clear h
  by_cases h0 : xs.length = 0
  · obtain rfl := List.eq_nil_of_length_eq_zero h0
    clear H h0
    go_enter Try.func41, Try.ntmps41
    go_wp2
    refine wp_loop_rounds 1 ?_
    rw [rounds_succ]
    go_wp2
    go_ret
    exact ⟨rfl, Below.refl _ _⟩
  · by_cases h8 : xs.length = 8
    · have HE : Hid (edgeB xs = dotsB xs) := by show _ = _; unfold edgeB; rw [h8]; rfl
      have HL : Hid (xs.length = 8) := h8
      rw [h8]
      clear h0 h8 hl
      go_enter Try.func41, Try.ntmps41
      go_wp2
      go_loopw [3] (fun i wr => ∃ k : Nat, k ≤ 8 ∧ i = .int .i64 (k : Int) ∧ Hid (∀ j, j < k → 0 ≤ xs.getD j 0 ∧ xs.getD j 0 ≤ 255) ∧ Below w.heap.size w wr) (fun i _ => 8 - (intOf i).toNat)
      case atStart => exact ⟨0, Nat.zero_le _, rfl, fun j hj => by omega, Below.refl _ _⟩
      case round =>
        obtain ⟨k, hk, rfl, HN, hb⟩ := hrel
        by_cases hlt : k < 8
        · have hlt' : k < xs.length := by rw [HL.out]; exact hlt
          rcases (H.out.below hb (Nat.le_refl _)) with h0 | ⟨b, off, rfl, hg, hc⟩
          · rw [h0] at hlt'; simp at hlt'
          have d1 := hc k hlt'
          clear hc
          have l0 : (0 : Int) ≤ (k : Int) := by omega
          have l1 : (k : Int) < 8 := by omega
          obtain ⟨x, hx⟩ : ∃ x, xs.getD k 0 = x := ⟨_, rfl⟩
          have HX : Hid (xs.getD k 0 = x) := hx
          rw [hx] at d1
          clear hx
          by_cases c1 : 0 ≤ x ∧ x ≤ 255
          · have CI := in_any x 0 255 wr
            have e1 : (decide ((0 : Int) ≤ x) && decide (x ≤ 255)) = true := by simp [c1.1, c1.2]
            rw [e1] at CI
            have HC : Hid (Calls Try.prog 42 #[.int .i64 x, .int .i64 0, .int .i64 255] wr _) := CI
            clear CI e1 hlt'
            go_wp2_with (go_at_call 42; refine HC.out.mono ?_; rintro e w1 ⟨rfl, hw⟩; subst w1)
            go_roundw
            case rel => exact ⟨k + 1, by omega, by go_num, fun j hj => by
              rcases Nat.lt_succ_iff_lt_or_eq.1 hj with h | rfl
              · exact HN.out j h
              · rw [HX.out]; omega, hb⟩
            case measure => simp [intOf]; omega
          · have HV : Hid (dotsB xs = false) := dotsB_no hlt' (by rw [HX.out]; exact c1)
            have CI := in_any x 0 255 wr
            have e1 : (decide ((0 : Int) ≤ x) && decide (x ≤ 255)) = false := by simp; omega
            rw [e1] at CI
            have HC : Hid (Calls Try.prog 42 #[.int .i64 x, .int .i64 0, .int .i64 255] wr _) := CI
            clear CI e1 c1 hlt'
            go_wp2_with (go_at_call 42; refine HC.out.mono ?_; rintro e w1 ⟨rfl, hw⟩; subst w1)
            go_ret
            exact ⟨by rw [HE.out, HV.out]; rfl, hb⟩
        · obtain rfl : k = 8 := by omega
          have HV : Hid (dotsB xs = true) := dotsB_iff.2 (by rw [HL.out]; exact HN.out)
          go_wp2
          go_ret
          exact ⟨by rw [HE.out, HV.out]; rfl, hb⟩
    · have HE : Hid (edgeB xs = false) := edgeB_no (by omega)
      have q0 : ((xs.length : Int) == 0) = false := by rw [beq_eq_false_iff_ne]; omega
      have q1 : ((xs.length : Int) == 8) = false := by rw [beq_eq_false_iff_ne]; omega
      have q2 : (xs.length == 8) = false := by rw [beq_eq_false_iff_ne]; omega
      have q3 : (xs.length == 0) = false := by rw [beq_eq_false_iff_ne]; omega
      have q4 : ¬ (xs.length : Int) = 0 := by omega
      have q5 : ¬ (xs.length : Int) = 8 := by omega
      have q6 : ((xs.length : Int) != 0) = true := by simpa using q4
      have q7 : ((xs.length : Int) != 8) = true := by simpa using q5
      clear H
      go_enter Try.func41, Try.ntmps41
      go_wp2
      go_ret
      exact ⟨by rw [HE.out]; rfl, Below.refl _ _⟩

set_option maxHeartbeats 1600000 in
theorem specEdgesOk (a1 a2 : Option Addr) (c1 c2 : Nat) (xs ys : List Int) (c : Int) (w : World) (h1 : Ints w a1 xs) (h2 : Ints w a2 ys) (m1 : xs.length ≤ maxLen) (m2 : ys.length ≤ maxLen) :
    Calls Try.prog 22 #[edgV a1 xs.length c1 a2 ys.length c2 c] w fun e w' => e = .returned (.bool (edgesB xs ys c)) ∧ Below w.heap.size w w' := by
  have H1 : Hid (∀ w', Below w.heap.size w w' → Calls Try.prog 41 #[.slice a1 xs.length c1] w' fun e w'' => e = .returned (.bool (edgeB xs)) ∧ Below w'.heap.size w' w'') := fun w' hb => l13Side_any a1 c1 xs w' (h1.below hb (Nat.le_refl _)) m1
  have H2 : Hid (∀ w', Below w.heap.size w w' → Calls Try.prog 41 #[.slice a2 ys.length c2] w' fun e w'' => e = .returned (.bool (edgeB ys)) ∧ Below w'.heap.size w' w'') := fun w' hb => l13Side_any a2 c2 ys w' (h2.below hb (Nat.le_refl _)) m2
  have HE : Hid (edgesB xs ys c = (edgeB xs && edgeB ys && (decide (-1 ≤ c) && decide (c ≤ 255)))) := rfl
  have HI : Hid (∀ w', Calls Try.prog 42 #[.int .i64 c, .int .i64 (-1), .int .i64 255] w' fun e w'' => e = .returned (.bool (decide (-1 ≤ c) && decide (c ≤ 255))) ∧ w'' = w') := fun w' => in_any c (-1) 255 w'
  generalize edgesB xs ys c = E at *
  generalize edgeB xs = X at *
  generalize edgeB ys = Y at *
  generalize (decide (-1 ≤ c) && decide (c ≤ 255)) = Z at *
  clear h1 h2 m1 m2
  generalize xs.length = n1 at *
  generalize ys.length = n2 at *
  go_enter Try.func22, Try.ntmps22
  go_wp2_with fail
  have B0 := Blk.new w #[.slice a1 n1 c1, .slice a2 n2 c2, .int .i64 c] 26
  have hb0 := (Below.refl w.heap.size w).alloc (Nat.le_refl _) (.cells #[.slice a1 n1 c1, .slice a2 n2 c2, .int .i64 c] 26)
  generalize World.alloc w _ = W at *
  refine (H1.out W hb0).mono ?_
  rintro e w1 ⟨rfl, hb⟩
  have hb1 := hb0.trans (hb.mono hb0.size)
  have B1 := B0.below hb B0.lt
  clear hb hb0 B0
  rcases X with _ | _
  · have HV : Hid (E = false) := by show _ = _; rw [HE.out]; rfl
    clear B1
    go_wp2
    go_ret
    exact ⟨by rw [HV.out]; rfl, hb1⟩
  obtain ⟨⟨x0, x1, x2⟩, _⟩ := B1.three
  go_wp2_with fail
  refine (H2.out w1 hb1).mono ?_
  rintro e w2 ⟨rfl, hb⟩
  have hb2 := hb1.trans (hb.mono hb1.size)
  have B2 := B1.below hb B1.lt
  clear hb hb1 B1 x0 x1 x2
  rcases Y with _ | _
  · have HV : Hid (E = false) := by show _ = _; rw [HE.out]; rfl
    clear B2
    go_wp2
    go_ret
    exact ⟨by rw [HV.out]; rfl, hb2⟩
  obtain ⟨⟨x0, x1, x2⟩, _⟩ := B2.three
  clear B2
  have HV : Hid (E = Z) := by show _ = _; rw [HE.out]; simp
  go_wp2_with (go_at_call 42; refine (HI.out _).mono ?_; rintro e w3 ⟨rfl, hw⟩; subst w3)
  go_ret
  exact ⟨by rw [HV.out]; rfl, hb2⟩
end Go.Proofs.Ytkakiollhhmmaaa
