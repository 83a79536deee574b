/-
  spec.ReadRuns.
-/
import Derived.Test.YtknfcfbioabdnaaRunBack
namespace Go.Proofs.Ytknfcfbioabdnaa
open Go.RowKit
set_option linter.unusedVariables false
set_option maxRecDepth 20000

/-- What is read of a row at a place, of a list of n numbers: nothing where one of the three is not right. -/
def rdSt (F : Nat → Option (Int × Nat)) (s : ByteArray) (a n : Int) : RSt := if placeB s a = true ∧ (n = 16 ∨ n = 64) then readR F n.toNat a.toNat else none
theorem rdSt_yes {F : Nat → Option (Int × Nat)} {s : ByteArray} {p n : Nat} (hp : p ≤ s.size) (hr : rowOkB s = true) (hn : n = 16 ∨ n = 64) : rdSt F s (p : Int) (n : Int) = readR F n p := by
  unfold rdSt
  rw [if_pos ⟨placeB_yes s p (by omega) hr, by omega⟩]
  rfl
theorem rdSt_no {F : Nat → Option (Int × Nat)} {s : ByteArray} {a n : Int} (h : ¬ (placeB s a = true ∧ (n = 16 ∨ n = 64))) : rdSt F s a n = none := if_neg h

set_option maxHeartbeats 1600000 in
theorem specReadRuns {s : ByteArray} {F : Nat → Option (Int × Nat)} (hF : IsCnt s F) (a n : Int) (w : World) (hm : s.size ≤ maxLen) :
    Calls Try.prog 30 #[.string s, .int .i64 a, .int .i64 n] w fun e w' => (∃ v, e = .returned (.tuple #[v, .int .i64 (ansE (rdSt F s a n)), .bool (ansY (rdSt F s a n))]) ∧ w'.ownsRow w.heap.size 3 1 v (ansL n.toNat (rdSt F s a n)).length ((ansL n.toNat (rdSt F s a n)).map (Value.int .i64))) ∧ Below w.heap.size w w' := by
  have hm' := hm
  unfold maxLen at hm'
  cases hr : rowOkB s with
  | false =>
    rw [rdSt_no (F := F) (s := s) (a := a) (n := n) (fun h => by have := (placeB_true s a h.1).2.2; rw [hr] at this; cases this)]
    have CR := specRowOk s w hm
    rw [hr] at CR
    have HR : Hid (Calls Try.prog 53 #[.string s] w (fun e w' => e = .returned (.bool false) ∧ w' = w)) := CR
    clear CR hr hF
    go_enter Try.func30, Try.ntmps30
    go_wp2_with (go_at_call 53; refine HR.out.mono ?_; rintro e w1 ⟨rfl, hw⟩; subst w1)
    go_ret3
    exact ⟨⟨_, rfl, own_none w (Nat.le_refl _)⟩, (Below.refl _ _).alloc (Nat.le_refl _) _⟩
  | true =>
    have CR := specRowOk s w hm
    rw [hr] at CR
    have HR : Hid (Calls Try.prog 53 #[.string s] w (fun e w' => e = .returned (.bool true) ∧ w' = w)) := CR
    clear CR
    have CI := in_any a 0 (s.size : Int)
    by_cases ha : 0 ≤ a ∧ a ≤ (s.size : Int)
    · have e1 : (decide ((0 : Int) ≤ a) && decide (a ≤ (s.size : Int))) = true := by simp [ha.1, ha.2]
      rw [e1] at CI
      have HI : Hid (∀ w', Calls Try.prog 50 #[.int .i64 a, .int .i64 0, .int .i64 (s.size : Int)] w' (fun e w'' => e = .returned (.bool true) ∧ w'' = w')) := CI
      obtain ⟨p, rfl⟩ : ∃ p : Nat, a = (p : Int) := ⟨a.toNat, by omega⟩
      by_cases hn : n = 16 ∨ n = 64
      · rcases hn with rfl | rfl
        · rw [show rdSt F s (p : Int) 16 = readR F 16 p from rdSt_yes (n := 16) (by omega) hr (by omega), show (16 : Int).toNat = 16 from rfl]
          have HL : Hid (Calls Try.prog 54 #[.string s, .int .i64 (p : Int), .int .i64 16] w (fun e w' => (∃ v, e = .returned (.tuple #[v, .int .i64 (ansE (readR F 16 p)), .bool (ansY (readR F 16 p))]) ∧ w'.ownsRow w.heap.size 3 1 v (ansL 16 (readR F 16 p)).length ((ansL 16 (readR F 16 p)).map (Value.int .i64))) ∧ Below w.heap.size w w')) := specL11Read hF hr p 16 w (by omega) (by omega) (by omega)
          generalize ansE (readR F 16 p) = E at *
          generalize ansY (readR F 16 p) = Y at *
          generalize ansL 16 (readR F 16 p) = L at *
          clear CI e1 hF hr ha
          go_enter Try.func30, Try.ntmps30
          go_wp2_with (first
            | (go_at_call 53; refine HR.out.mono ?_; rintro e w1 ⟨rfl, hw⟩; subst w1)
            | (go_at_call 50; refine (HI.out _).mono ?_; rintro e w1 ⟨rfl, hw⟩; subst w1)
            | (go_at_call 54; refine HL.out.mono ?_; rintro e w2 ⟨⟨v, rfl, ho⟩, hc⟩))
          go_ret3
          exact ⟨⟨_, rfl, ho⟩, hc⟩
        · rw [show rdSt F s (p : Int) 64 = readR F 64 p from rdSt_yes (n := 64) (by omega) hr (by omega), show (64 : Int).toNat = 64 from rfl]
          have HL : Hid (Calls Try.prog 54 #[.string s, .int .i64 (p : Int), .int .i64 64] w (fun e w' => (∃ v, e = .returned (.tuple #[v, .int .i64 (ansE (readR F 64 p)), .bool (ansY (readR F 64 p))]) ∧ w'.ownsRow w.heap.size 3 1 v (ansL 64 (readR F 64 p)).length ((ansL 64 (readR F 64 p)).map (Value.int .i64))) ∧ Below w.heap.size w w')) := specL11Read hF hr p 64 w (by omega) (by omega) (by omega)
          generalize ansE (readR F 64 p) = E at *
          generalize ansY (readR F 64 p) = Y at *
          generalize ansL 64 (readR F 64 p) = L at *
          clear CI e1 hF hr ha
          go_enter Try.func30, Try.ntmps30
          go_wp2_with (first
            | (go_at_call 53; refine HR.out.mono ?_; rintro e w1 ⟨rfl, hw⟩; subst w1)
            | (go_at_call 50; refine (HI.out _).mono ?_; rintro e w1 ⟨rfl, hw⟩; subst w1)
            | (go_at_call 54; refine HL.out.mono ?_; rintro e w2 ⟨⟨v, rfl, ho⟩, hc⟩))
          go_ret3
          exact ⟨⟨_, rfl, ho⟩, hc⟩
      · rw [rdSt_no (F := F) (s := s) (a := (p : Int)) (n := n) (fun h => hn h.2)]
        have q1 : ¬ n = 16 := fun h => hn (.inl h)
        have q2 : ¬ n = 64 := fun h => hn (.inr h)
        have q3 : (n != 16) = true := bne_iff_ne.2 q1
        have q4 : (n != 64) = true := bne_iff_ne.2 q2
        clear CI e1 hF hr ha hn
        go_enter Try.func30, Try.ntmps30
        go_wp2_with (first
          | (go_at_call 53; refine HR.out.mono ?_; rintro e w1 ⟨rfl, hw⟩; subst w1)
          | (go_at_call 50; refine (HI.out _).mono ?_; rintro e w1 ⟨rfl, hw⟩; subst w1))
        go_ret3
        exact ⟨⟨_, rfl, own_none w (Nat.le_refl _)⟩, (Below.refl _ _).alloc (Nat.le_refl _) _⟩
    · have e1 : (decide ((0 : Int) ≤ a) && decide (a ≤ (s.size : Int))) = false := by simp; omega
      rw [e1] at CI
      have HI : Hid (∀ w', Calls Try.prog 50 #[.int .i64 a, .int .i64 0, .int .i64 (s.size : Int)] w' (fun e w'' => e = .returned (.bool false) ∧ w'' = w')) := CI
      rw [rdSt_no (F := F) (s := s) (a := a) (n := n) (fun h => by have := placeB_true s a h.1; exact ha ⟨this.1, this.2.1⟩)]
      clear CI e1 hF hr ha
      go_enter Try.func30, Try.ntmps30
      go_wp2_with (first
        | (go_at_call 53; refine HR.out.mono ?_; rintro e w1 ⟨rfl, hw⟩; subst w1)
        | (go_at_call 50; refine (HI.out _).mono ?_; rintro e w1 ⟨rfl, hw⟩; subst w1))
      go_ret3
      exact ⟨⟨_, rfl, own_none w (Nat.le_refl _)⟩, (Below.refl _ _).alloc (Nat.le_refl _) _⟩
end Go.Proofs.Ytknfcfbioabdnaa
