/-
  The walks of impl.SignOf and spec.SignOf.
-/
import Derived.Test.YtlejfkjanllgbaaDoorOnesWalk
import Derived.Deep.RegionWith
import Derived.BigQuiet
import Derived.Test.YtlejfkjanllgbaaDoorInKit
import Derived.KernelRfl
namespace Go.Proofs.YtlejfkjanllgbaaDoor
open Go.RowKit
set_option linter.unusedVariables false
set_option maxRecDepth 20000

set_option maxHeartbeats 400000 in
theorem placeOk (i : Int) (w : World) : Calls Tryd.prog 130 #[.int .i64 i] w fun e w' => e = .returned (.bool (decide (0 ≤ i) && decide (i < 8))) ∧ w' = w := by
  by_cases h1 : 0 ≤ i
  · go_enter Tryd.func130, Tryd.ntmps130
    go_wp2
    all_goals go_ret
    all_goals exact ⟨by simp; omega, rfl⟩
  · go_enter Tryd.func130, Tryd.ntmps130
    go_wp2
    all_goals go_ret
    all_goals exact ⟨by simp; omega, rfl⟩

set_option maxHeartbeats 800000 in
theorem implSign (i k : Nat) (w : World) (hi : i < 8) (hk : k < 8) : Calls Tryd.prog 129 #[.int .i64 (i : Int), .int .i64 (k : Int)] w fun e w' => e = .returned (.int .i64 (sg i k)) ∧ w' = w := by
  have PI : Hid (∀ w', Calls Tryd.prog 130 #[.int .i64 (i : Int)] w' (fun e w'' => e = .returned (.bool true) ∧ w'' = w')) := fun w' => by
    have := placeOk (i : Int) w'
    rwa [show (decide (0 ≤ (i : Int)) && decide ((i : Int) < 8)) = true by simp; omega] at this
  have PK : Hid (∀ w', Calls Tryd.prog 130 #[.int .i64 (k : Int)] w' (fun e w'' => e = .returned (.bool true) ∧ w'' = w')) := fun w' => by
    have := placeOk (k : Int) w'
    rwa [show (decide (0 ≤ (k : Int)) && decide ((k : Int) < 8)) = true by simp; omega] at this
  have he := i64_and i k hi hk
  have hn := and_lt (k := k) hi
  have HV : Hid (sg i k = sgn (i &&& k)) := rfl
  generalize i &&& k = n at *
  have hw1 : IntKind.u64.wrap (n : Int) = (n : Int) := by rw [IntKind.wrap_u64]; omega
  have HO : Hid (∀ w', Calls Tryd.prog 131 #[.int .u64 (n : Int)] w' (fun e w'' => e = .returned (.int .i64 (pop3 n : Int)) ∧ w'' = w')) := fun w' => ones_any n w' hn
  have HS : Hid (sgn n = if pop3 n % 2 = 0 then 1 else -1) := rfl
  have hp : (pop3 n : Int) ≤ 3 := by unfold pop3; omega
  have hp0 : (0 : Int) ≤ (pop3 n : Int) := by omega
  clear hn
  generalize pop3 n = q at *
  by_cases hq : q % 2 = 0
  · have HR : Hid (sg i k = 1) := by show _ = _; rw [HV.out, HS.out, if_pos hq]
    have hq1 : (q : Int) % 2 = 0 := by omega
    clear HV HS hq hi hk
    go_enter Tryd.func129, Tryd.ntmps129
    go_wp2_with (first
      | (first | (go_at_call_of 130 (Value.int IntKind.i64 (i : Int)); refine (PI.out _).mono ?_; rintro e w1 ⟨rfl, hw⟩; subst w1) | (go_at_call_of 130 (Value.int IntKind.i64 (k : Int)); refine (PK.out _).mono ?_; rintro e w1 ⟨rfl, hw⟩; subst w1))
      | (go_at_call 131; refine (HO.out _).mono ?_; rintro e w1 ⟨rfl, hw⟩; subst w1))
    go_ret
    exact ⟨by rw [HR.out]; rfl, rfl⟩
  · have HR : Hid (sg i k = -1) := by show _ = _; rw [HV.out, HS.out, if_neg hq]
    have hq1 : (q : Int) % 2 = 1 := by omega
    clear HV HS hq hi hk
    go_enter Tryd.func129, Tryd.ntmps129
    go_wp2_with (first
      | (first | (go_at_call_of 130 (Value.int IntKind.i64 (i : Int)); refine (PI.out _).mono ?_; rintro e w1 ⟨rfl, hw⟩; subst w1) | (go_at_call_of 130 (Value.int IntKind.i64 (k : Int)); refine (PK.out _).mono ?_; rintro e w1 ⟨rfl, hw⟩; subst w1))
      | (go_at_call 131; refine (HO.out _).mono ?_; rintro e w1 ⟨rfl, hw⟩; subst w1))
    go_ret
    exact ⟨by rw [HR.out]; rfl, rfl⟩
set_option maxHeartbeats 800000 in
theorem implSign_no (i k : Int) (w : World) (h : ¬ ((0 ≤ i ∧ i < 8) ∧ 0 ≤ k ∧ k < 8)) : Calls Tryd.prog 129 #[.int .i64 i, .int .i64 k] w fun e w' => e = .returned (.int .i64 0) ∧ w' = w := by
  by_cases hi : 0 ≤ i ∧ i < 8
  · have PI : Hid (∀ w', Calls Tryd.prog 130 #[.int .i64 i] w' (fun e w'' => e = .returned (.bool true) ∧ w'' = w')) := fun w' => by
      have := placeOk i w'
      rwa [show (decide (0 ≤ i) && decide (i < 8)) = true by simp; omega] at this
    have PK : Hid (∀ w', Calls Tryd.prog 130 #[.int .i64 k] w' (fun e w'' => e = .returned (.bool false) ∧ w'' = w')) := fun w' => by
      have := placeOk k w'
      rwa [show (decide (0 ≤ k) && decide (k < 8)) = false by simp; omega] at this
    clear h hi
    go_enter Tryd.func129, Tryd.ntmps129
    go_wp2_with (first | (go_at_call_of 130 (Value.int IntKind.i64 i); refine (PI.out _).mono ?_; rintro e w1 ⟨rfl, hw⟩; subst w1) | (go_at_call_of 130 (Value.int IntKind.i64 k); refine (PK.out _).mono ?_; rintro e w1 ⟨rfl, hw⟩; subst w1))
    go_ret
    exact ⟨rfl, rfl⟩
  · have PI : Hid (∀ w', Calls Tryd.prog 130 #[.int .i64 i] w' (fun e w'' => e = .returned (.bool false) ∧ w'' = w')) := fun w' => by
      have := placeOk i w'
      rwa [show (decide (0 ≤ i) && decide (i < 8)) = false by simp; omega] at this
    clear h hi
    go_enter Tryd.func129, Tryd.ntmps129
    go_wp2_with (go_at_call 130; refine (PI.out _).mono ?_; rintro e w1 ⟨rfl, hw⟩; subst w1)
    go_ret
    exact ⟨rfl, rfl⟩

set_option maxHeartbeats 800000 in
theorem specSign (i k : Nat) (w : World) (hi : i < 8) (hk : k < 8) : Calls Tryd.prog 91 #[.int .i64 (i : Int), .int .i64 (k : Int)] w fun e w' => e = .returned (.int .i64 (sg i k)) ∧ w' = w := by
  have PI : Hid (∀ w', Calls Tryd.prog 47 #[.int .i64 (i : Int), .int .i64 0, .int .i64 7] w' (fun e w'' => e = .returned (.bool true) ∧ w'' = w')) := fun w' => by
    have := in_any (i : Int) 0 7 w'
    rwa [show (decide (0 ≤ (i : Int)) && decide ((i : Int) ≤ 7)) = true by simp; omega] at this
  have PK : Hid (∀ w', Calls Tryd.prog 47 #[.int .i64 (k : Int), .int .i64 0, .int .i64 7] w' (fun e w'' => e = .returned (.bool true) ∧ w'' = w')) := fun w' => by
    have := in_any (k : Int) 0 7 w'
    rwa [show (decide (0 ≤ (k : Int)) && decide ((k : Int) ≤ 7)) = true by simp; omega] at this
  have he := i64_and i k hi hk
  have hn := and_lt (k := k) hi
  have HV : Hid (sg i k = sgn (i &&& k)) := rfl
  generalize i &&& k = n at *
  clear hi hk
  go_enter Tryd.func91, Tryd.ntmps91
  go_wp2_with (first | (go_at_call_of 47 (Value.int IntKind.i64 (i : Int)); refine (PI.out _).mono ?_; rintro e w1 ⟨rfl, hw⟩; subst w1) | (go_at_call_of 47 (Value.int IntKind.i64 (k : Int)); refine (PK.out _).mono ?_; rintro e w1 ⟨rfl, hw⟩; subst w1))
  clear he PI PK
  go_loopw [5, 6] (fun s x wr => ∃ (m : Nat) (t : Int), m < 8 ∧ x = .int .i64 (m : Int) ∧ s = .int .i64 t ∧ (t = 1 ∨ t = -1) ∧ Hid (t * sgn m = sgn n) ∧ wr = w) (fun _ x _ => (intOf x).toNat)
  case atStart => exact ⟨n, 1, hn, rfl, rfl, .inl rfl, by show _ = _; omega, rfl⟩
  case round =>
    obtain ⟨m, t, hm, rfl, rfl, ht, HT, hb⟩ := hrel
    have m0 : (0 : Int) ≤ (m : Int) := by omega
    have m1 : (m : Int) < 8 := by omega
    by_cases hz : m = 0
    · subst hz
      have HR : Hid (sg i k = t) := by
        show _ = _
        rw [HV.out, ← HT.out]
        have : sgn 0 = 1 := rfl
        rw [this]
        omega
      clear HT HV ht
      go_wp2
      go_ret
      exact ⟨by rw [HR.out]; rfl, rfl⟩
    · have hpos : (0 : Int) < (m : Int) := by omega
      by_cases hp : m % 2 = 1
      · have hp1 : (m : Int) % 2 = 1 := by omega
        have HN : Hid (-t * sgn (m / 2) = sgn n) := by
          show _ = _
          rw [sgn_odd hm hp, ← HT.out, Int.neg_mul_neg]
        have tb : -2 < t ∧ t < 2 := by rcases ht with rfl | rfl <;> decide
        obtain ⟨t0, t1⟩ := tb
        go_wp2
        refine ⟨⟨m / 2, -t, by omega, by go_num, rfl, by omega, HN, trivial⟩, ?_⟩
        simp [intOf]; omega
      · have hp1 : (m : Int) % 2 = 0 := by omega
        have HN : Hid (t * sgn (m / 2) = sgn n) := by
          show _ = _
          rw [sgn_even hm (by omega), ← HT.out]
        go_wp2
        refine ⟨⟨m / 2, t, by omega, by go_num, rfl, ht, HN, trivial⟩, ?_⟩
        simp [intOf]; omega
set_option maxHeartbeats 800000 in
theorem specSign_no (i k : Int) (w : World) (h : ¬ ((0 ≤ i ∧ i < 8) ∧ 0 ≤ k ∧ k < 8)) : Calls Tryd.prog 91 #[.int .i64 i, .int .i64 k] w fun e w' => e = .returned (.int .i64 0) ∧ w' = w := by
  by_cases hi : 0 ≤ i ∧ i < 8
  · have PI : Hid (∀ w', Calls Tryd.prog 47 #[.int .i64 i, .int .i64 0, .int .i64 7] w' (fun e w'' => e = .returned (.bool true) ∧ w'' = w')) := fun w' => by
      have := in_any i 0 7 w'
      rwa [show (decide (0 ≤ i) && decide (i ≤ 7)) = true by simp; omega] at this
    have PK : Hid (∀ w', Calls Tryd.prog 47 #[.int .i64 k, .int .i64 0, .int .i64 7] w' (fun e w'' => e = .returned (.bool false) ∧ w'' = w')) := fun w' => by
      have := in_any k 0 7 w'
      rwa [show (decide (0 ≤ k) && decide (k ≤ 7)) = false by simp; omega] at this
    clear h hi
    go_enter Tryd.func91, Tryd.ntmps91
    go_wp2_with (first | (go_at_call_of 47 (Value.int IntKind.i64 i); refine (PI.out _).mono ?_; rintro e w1 ⟨rfl, hw⟩; subst w1) | (go_at_call_of 47 (Value.int IntKind.i64 k); refine (PK.out _).mono ?_; rintro e w1 ⟨rfl, hw⟩; subst w1))
    go_ret
    exact ⟨rfl, rfl⟩
  · have PI : Hid (∀ w', Calls Tryd.prog 47 #[.int .i64 i, .int .i64 0, .int .i64 7] w' (fun e w'' => e = .returned (.bool false) ∧ w'' = w')) := fun w' => by
      have := in_any i 0 7 w'
      rwa [show (decide (0 ≤ i) && decide (i ≤ 7)) = false by simp; omega] at this
    clear h hi
    go_enter Tryd.func91, Tryd.ntmps91
    go_wp2_with (go_at_call 47; refine (PI.out _).mono ?_; rintro e w1 ⟨rfl, hw⟩; subst w1)
    go_ret
    exact ⟨rfl, rfl⟩
end Go.Proofs.YtlejfkjanllgbaaDoor
