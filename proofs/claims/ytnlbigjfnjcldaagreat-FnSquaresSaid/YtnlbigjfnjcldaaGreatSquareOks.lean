/-
  When a square is right, of both: the walks of impl.SquareOk and of spec.SquareOk.
-/
import Derived.Test.YtnlbigjfnjcldaaGreatSquareOkKit
namespace Go.Proofs.YtnlbigjfnjcldaaGreat
open Go.RowKit
set_option linter.unusedVariables false
set_option maxRecDepth 20000

set_option maxHeartbeats 800000 in
theorem implSquareOk (kd md dx dy : Int) (a : Option Addr) (c : Nat) (xs : List Int) (w : World) (h : Ints w a xs) (hl : xs.length ≤ maxLen) :
    Calls Tryz.prog 14 #[sqV kd md dx dy a xs.length c] w fun e w' => e = .returned (.bool (sqOkB kd md dx dy xs)) ∧ Below w.heap.size w w' := by
  have hb0 := (Below.refl w.heap.size w).alloc (Nat.le_refl _) (.cells (sqC kd md dx dy a xs.length c) 34)
  by_cases h0 : kd = 0
  · subst h0
    have C1 : Hid (∀ w', Calls Tryz.prog 113 #[sqV 0 md dx dy a xs.length c] w' fun e w'' => e = .returned (.bool (sqOkB 0 md dx dy xs)) ∧ Below w'.heap.size w' w'') := fun w' => right_skip 0 md dx dy a c xs w' hl
    clear h hl
    generalize sqOkB 0 md dx dy xs = E at *
    generalize xs.length = n at *
    go_enter Tryz.func14, Tryz.ntmps14
    go_wp2_with (first
      | (go_at_call 29; refine (sentAs_skip md dx dy a n c _).mono ?_; rintro e w1 ⟨rfl, hc⟩; have hb1 := hb0.trans (hc.mono hb0.size))
      | (go_at_call 113; refine (C1.out _).mono ?_; rintro e w2 ⟨rfl, hc2⟩))
    go_ret
    exact ⟨rfl, hb1.trans (hc2.mono hb1.size)⟩
  by_cases h1 : kd = 1
  · subst h1
    have C1 : Hid (∀ w', Below w.heap.size w w' → Calls Tryz.prog 116 #[sqV 1 md dx dy a xs.length c] w' fun e w'' => e = .returned (.bool (sqOkB 1 md dx dy xs)) ∧ Below w'.heap.size w' w'') := fun w' hb => right_move 1 md dx dy a c xs w' (h.below hb (Nat.le_refl _)) hl
    clear h hl
    generalize sqOkB 1 md dx dy xs = E at *
    generalize xs.length = n at *
    go_enter Tryz.func14, Tryz.ntmps14
    go_wp2_with (first
      | (go_at_call 29; refine (sentAs_move md dx dy a n c _).mono ?_; rintro e w1 ⟨rfl, hc⟩; have hb1 := hb0.trans (hc.mono hb0.size))
      | (go_at_call 116; refine (C1.out _ hb1).mono ?_; rintro e w2 ⟨rfl, hc2⟩))
    go_ret
    exact ⟨rfl, hb1.trans (hc2.mono hb1.size)⟩
  by_cases h2 : kd = 2
  · subst h2
    have C1 : Hid (∀ w', Below w.heap.size w w' → Calls Tryz.prog 185 #[sqV 2 md dx dy a xs.length c] w' fun e w'' => e = .returned (.bool (sqOkB 2 md dx dy xs)) ∧ Below w'.heap.size w' w'') := fun w' hb => right_guess 2 md dx dy a c xs w' (h.below hb (Nat.le_refl _)) hl
    clear h hl
    generalize sqOkB 2 md dx dy xs = E at *
    generalize xs.length = n at *
    go_enter Tryz.func14, Tryz.ntmps14
    go_wp2_with (first
      | (go_at_call 29; refine (sentAs_guess md dx dy a n c _).mono ?_; rintro e w1 ⟨rfl, hc⟩; have hb1 := hb0.trans (hc.mono hb0.size))
      | (go_at_call 185; refine (C1.out _ hb1).mono ?_; rintro e w2 ⟨rfl, hc2⟩))
    go_ret
    exact ⟨rfl, hb1.trans (hc2.mono hb1.size)⟩
  have HE : Hid (sqOkB kd md dx dy xs = false) := sqOk_no h0 h1 h2
  have C0 : Hid (∀ w', Calls Tryz.prog 29 #[sqV kd md dx dy a xs.length c] w' fun e w'' => e = .returned (.tuple #[.nilIface, .bool false]) ∧ Below w'.heap.size w' w'') := fun w' => sentAs_none kd md dx dy a xs.length c w' h0 h1 h2
  clear h hl h0 h1 h2
  generalize sqOkB kd md dx dy xs = E at *
  generalize xs.length = n at *
  go_enter Tryz.func14, Tryz.ntmps14
  go_wp2_with (go_at_call 29; refine (C0.out _).mono ?_; rintro e w1 ⟨rfl, hc⟩; have hb1 := hb0.trans (hc.mono hb0.size))
  go_ret
  exact ⟨by rw [HE.out]; rfl, hb1⟩

set_option maxHeartbeats 1600000 in
theorem specSquareOk (kd md dx dy : Int) (a : Option Addr) (c : Nat) (xs : List Int) (w : World) (h : Ints w a xs) (hl : xs.length ≤ maxLen) :
    Calls Tryz.prog 37 #[sqV kd md dx dy a xs.length c] w fun e w' => e = .returned (.bool (sqOkB kd md dx dy xs)) ∧ Below w.heap.size w w' := by
  have hb := (Below.refl w.heap.size w).alloc (Nat.le_refl _) (.cells (sqC kd md dx dy a xs.length c) 34)
  have C2 : Hid (∀ w', Below w.heap.size w w' → Calls Tryz.prog 55 #[.slice a xs.length c, .int .i64 64, .int .i64 5000] w' fun e w'' => e = .returned (.bool (sqB 5000 xs)) ∧ Below w'.heap.size w' w'') := fun w' hb => specAll a c 64 xs 5000 w' (h.below hb (Nat.le_refl _)) hl (by decide) (by decide)
  by_cases k0 : kd = 0
  · subst k0
    have HE : Hid (sqOkB 0 md dx dy xs = (decide (md = 0) && decide (dx = 0) && decide (dy = 0) && decide (xs.length = 0))) := sqOk_0 md dx dy xs
    unfold maxLen at hl
    clear C2 h
    generalize sqOkB 0 md dx dy xs = E at *
    generalize xs.length = n at *
    by_cases h0 : md = 0
    · subst h0
      by_cases h1 : dx = 0
      · subst h1
        by_cases h2 : dy = 0
        · subst h2
          by_cases h3 : n = 0
          · subst h3
            go_enter Tryz.func37, Tryz.ntmps37
            go_wp2
            go_ret
            exact ⟨by rw [HE.out]; rfl, hb⟩
          · have q3 : (n == 0) = false := by rw [beq_eq_false_iff_ne]; exact h3
            have q4 : ((n : Int) == 0) = false := by rw [beq_eq_false_iff_ne]; omega
            have HF : Hid (decide (n = 0) = false) := by show _ = _; simpa using h3
            go_enter Tryz.func37, Tryz.ntmps37
            go_wp2
            go_ret
            exact ⟨by rw [HE.out, HF.out]; rfl, hb⟩
        · have q3 : (dy == 0) = false := by rw [beq_eq_false_iff_ne]; exact h2
          have HF : Hid (decide (dy = 0) = false) := by show _ = _; simpa using h2
          go_enter Tryz.func37, Tryz.ntmps37
          go_wp2
          go_ret
          exact ⟨by rw [HE.out, HF.out]; rfl, hb⟩
      · have q3 : (dx == 0) = false := by rw [beq_eq_false_iff_ne]; exact h1
        have HF : Hid (decide (dx = 0) = false) := by show _ = _; simpa using h1
        go_enter Tryz.func37, Tryz.ntmps37
        go_wp2
        go_ret
        exact ⟨by rw [HE.out, HF.out]; rfl, hb⟩
    · have q3 : (md == 0) = false := by rw [beq_eq_false_iff_ne]; exact h0
      have HF : Hid (decide (md = 0) = false) := by show _ = _; simpa using h0
      go_enter Tryz.func37, Tryz.ntmps37
      go_wp2
      go_ret
      exact ⟨by rw [HE.out, HF.out]; rfl, hb⟩
  by_cases k1 : kd = 1
  · subst k1
    have HE : Hid (sqOkB 1 md dx dy xs = (decide (md = 0) && (decide (-16 ≤ dx) && decide (dx ≤ 16)) && (decide (-16 ≤ dy) && decide (dy ≤ 16)) && sqB 5000 xs)) := sqOk_1 md dx dy xs
    have I1 : Hid (∀ w', Calls Tryz.prog 43 #[.int .i64 dx, .int .i64 (-16), .int .i64 16] w' fun e w'' => e = .returned (.bool (decide (-16 ≤ dx) && decide (dx ≤ 16))) ∧ w'' = w') := fun w' => in_any dx (-16) 16 w'
    have I2 : Hid (∀ w', Calls Tryz.prog 43 #[.int .i64 dy, .int .i64 (-16), .int .i64 16] w' fun e w'' => e = .returned (.bool (decide (-16 ≤ dy) && decide (dy ≤ 16))) ∧ w'' = w') := fun w' => in_any dy (-16) 16 w'
    clear h hl
    generalize sqOkB 1 md dx dy xs = E at *
    generalize sqB 5000 xs = Y at *
    generalize xs.length = n at *
    generalize (decide (-16 ≤ dx) && decide (dx ≤ 16)) = X1 at *
    generalize (decide (-16 ≤ dy) && decide (dy ≤ 16)) = X2 at *
    by_cases h0 : md = 0
    · subst h0
      cases X1
      case false =>
        go_enter Tryz.func37, Tryz.ntmps37
        go_wp2_with (go_at_call 43; refine (I1.out _).mono ?_; rintro e w2 ⟨rfl, hw⟩; subst w2)
        go_ret
        exact ⟨by rw [HE.out]; rfl, hb⟩
      case true =>
        cases X2
        case false =>
          go_enter Tryz.func37, Tryz.ntmps37
          go_wp2_with (go_at_call 43; first | ((with_reducible refine Calls.mono (I1.out _) ?_); rintro e w2 ⟨rfl, hw⟩; subst w2) | ((with_reducible refine Calls.mono (I2.out _) ?_); rintro e w2 ⟨rfl, hw⟩; subst w2))
          go_ret
          exact ⟨by rw [HE.out]; rfl, hb⟩
        case true =>
          go_enter Tryz.func37, Tryz.ntmps37
          go_wp2_with (first
            | (go_at_call 43; first | ((with_reducible refine Calls.mono (I1.out _) ?_); rintro e w2 ⟨rfl, hw⟩; subst w2) | ((with_reducible refine Calls.mono (I2.out _) ?_); rintro e w2 ⟨rfl, hw⟩; subst w2))
            | (go_at_call 55; refine (C2.out _ hb).mono ?_; rintro e w2 ⟨rfl, hc2⟩))
          go_ret
          exact ⟨by rw [HE.out]; rfl, hb.trans (hc2.mono hb.size)⟩
    · have q3 : (md == 0) = false := by rw [beq_eq_false_iff_ne]; exact h0
      have HF : Hid (decide (md = 0) = false) := by show _ = _; simpa using h0
      go_enter Tryz.func37, Tryz.ntmps37
      go_wp2
      go_ret
      exact ⟨by rw [HE.out, HF.out]; rfl, hb⟩
  by_cases k2 : kd = 2
  · subst k2
    have HE : Hid (sqOkB 2 md dx dy xs = ((decide (0 ≤ md) && decide (md ≤ 3)) && decide (dx = 0) && decide (dy = 0) && sqB 5000 xs)) := sqOk_2 md dx dy xs
    have I1 : Hid (∀ w', Calls Tryz.prog 43 #[.int .i64 md, .int .i64 0, .int .i64 3] w' fun e w'' => e = .returned (.bool (decide (0 ≤ md) && decide (md ≤ 3))) ∧ w'' = w') := fun w' => in_any md 0 3 w'
    clear h hl
    generalize sqOkB 2 md dx dy xs = E at *
    generalize sqB 5000 xs = Y at *
    generalize xs.length = n at *
    generalize (decide (0 ≤ md) && decide (md ≤ 3)) = X1 at *
    cases X1
    case false =>
      go_enter Tryz.func37, Tryz.ntmps37
      go_wp2_with (go_at_call 43; refine (I1.out _).mono ?_; rintro e w2 ⟨rfl, hw⟩; subst w2)
      go_ret
      exact ⟨by rw [HE.out]; rfl, hb⟩
    case true =>
      by_cases h1 : dx = 0
      · subst h1
        by_cases h2 : dy = 0
        · subst h2
          go_enter Tryz.func37, Tryz.ntmps37
          go_wp2_with (first
            | (go_at_call 43; refine (I1.out _).mono ?_; rintro e w2 ⟨rfl, hw⟩; subst w2)
            | (go_at_call 55; refine (C2.out _ hb).mono ?_; rintro e w2 ⟨rfl, hc2⟩))
          go_ret
          exact ⟨by rw [HE.out]; rfl, hb.trans (hc2.mono hb.size)⟩
        · have q3 : (dy == 0) = false := by rw [beq_eq_false_iff_ne]; exact h2
          have HF : Hid (decide (dy = 0) = false) := by show _ = _; simpa using h2
          go_enter Tryz.func37, Tryz.ntmps37
          go_wp2_with (go_at_call 43; refine (I1.out _).mono ?_; rintro e w2 ⟨rfl, hw⟩; subst w2)
          go_ret
          exact ⟨by rw [HE.out, HF.out]; rfl, hb⟩
      · have q3 : (dx == 0) = false := by rw [beq_eq_false_iff_ne]; exact h1
        have HF : Hid (decide (dx = 0) = false) := by show _ = _; simpa using h1
        go_enter Tryz.func37, Tryz.ntmps37
        go_wp2_with (go_at_call 43; refine (I1.out _).mono ?_; rintro e w2 ⟨rfl, hw⟩; subst w2)
        go_ret
        exact ⟨by rw [HE.out, HF.out]; rfl, hb⟩
  have HE : Hid (sqOkB kd md dx dy xs = false) := sqOk_no k0 k1 k2
  clear C2 h
  have q0 : (kd == 0) = false := by rw [beq_eq_false_iff_ne]; exact k0
  have q1 : (kd == 1) = false := by rw [beq_eq_false_iff_ne]; exact k1
  have q2 : (kd == 2) = false := by rw [beq_eq_false_iff_ne]; exact k2
  generalize sqOkB kd md dx dy xs = E at *
  generalize xs.length = n at *
  go_enter Tryz.func37, Tryz.ntmps37
  go_wp2
  go_ret
  exact ⟨by rw [HE.out]; rfl, hb⟩
end Go.Proofs.YtnlbigjfnjcldaaGreat
