/-
  The best guess, the model's: the walk of spec.BestGuess.
-/
import Derived.Test.YtkakiollhhmmaaaBestImpl
namespace Go.Proofs.Ytkakiollhhmmaaa
open Go.RowKit
set_option linter.unusedVariables false
set_option maxRecDepth 20000


set_option maxHeartbeats 6400000 in
theorem specBestGuess (a0 a1 a2 : Option Addr) (c0 c1 c2 : Nat) (ws xs ys : List Int) (c : Int) (w : World) (h0 : Ints w a0 ws) (h1 : Ints w a1 xs) (h2 : Ints w a2 ys) (m0 : ws.length ≤ maxLen) (m1 : xs.length ≤ maxLen) (m2 : ys.length ≤ maxLen) :
    Calls Try.prog 10 #[.slice a0 ws.length c0, edgV a1 xs.length c1 a2 ys.length c2 c] w fun e w' => e = .returned (.tuple #[.int .i64 (bestM ws xs ys c).1, .int .i64 (bestM ws xs ys c).2]) ∧ Below w.heap.size w w' := by
  have HE : Hid (∀ w', Below w.heap.size w w' → Calls Try.prog 22 #[edgV a1 xs.length c1 a2 ys.length c2 c] w' fun e w'' => e = .returned (.bool (edgesB xs ys c)) ∧ Below w'.heap.size w' w'') := fun w' hb => specEdgesOk a1 a2 c1 c2 xs ys c w' (h1.below hb (Nat.le_refl _)) (h2.below hb (Nat.le_refl _)) m1 m2
  have HA : Hid (∀ w', Below w.heap.size w w' → Calls Try.prog 29 #[.slice a0 ws.length c0] w' fun e w'' => e = .returned (.bool (wantB ws)) ∧ Below w'.heap.size w' w'') := fun w' hb => l13Dots_any a0 c0 ws w' (h0.below hb (Nat.le_refl _)) m0
  have HD : Hid (edgesB xs ys c = true → ∀ (m : Nat), m < 4 → ∀ w', Below w.heap.size w w' → Calls Try.prog 30 #[.int .i64 (m : Int), edgV a1 xs.length c1 a2 ys.length c2 c] w' fun e w'' => (∃ p q, e = .returned (.slice p 64 q) ∧ Ints w'' p (gueL (m : Int) xs ys c)) ∧ Below w'.heap.size w' w'') := fun h m hm w' hb => by
    have hl : (gueL (m : Int) xs ys c).length = 64 := by rw [gueL_of h (by omega) (by omega), listF_length]
    refine (specGuessOf (m : Int) a1 a2 c1 c2 xs ys c w' (h1.below hb (Nat.le_refl _)) (h2.below hb (Nat.le_refl _)) m1 m2).mono ?_
    rintro e w'' ⟨⟨v, rfl, ho⟩, hb'⟩
    rw [gueL_of h (by omega) (by omega), listF_length] at ho
    obtain ⟨p, q, rfl, hi⟩ := owned_ints ho
    rw [← gueL_of h (by omega) (by omega)] at hi
    exact ⟨⟨p, q, rfl, hi⟩, hb'⟩
  have HP : Hid (edgesB xs ys c = true → wantB ws = true → ∀ m : Nat, m < 4 → ∀ p q w', Below w.heap.size w w' → Ints w' p (gueL (m : Int) xs ys c) → Calls Try.prog 14 #[.slice a0 64 c0, .slice p 64 q] w' fun e w'' => e = .returned (.int .i64 (gapI ws (gueL (m : Int) xs ys c))) ∧ Below w'.heap.size w' w'') := fun h hw m hm p q w' hb hi => by
    have hl : (gueL (m : Int) xs ys c).length = 64 := by rw [gueL_of h (by omega) (by omega), listF_length]
    have := specGapOf a0 p c0 q ws (gueL (m : Int) xs ys c) w' (h0.below hb (Nat.le_refl _)) hi m0 (by rw [hl]; decide)
    rw [(wantB_gap hw).1, hl] at this
    exact this
  have HI : Hid (edgesB xs ys c = true → wantB ws = true → ∀ m : Nat, m < 4 → 0 ≤ gapI ws (gueL (m : Int) xs ys c) ∧ gapI ws (gueL (m : Int) xs ys c) ≤ 128000) := fun h hw m hm => gapI_in (wantB_gap hw).2 (gapB_gue h (by omega) (by omega))
  have HLn : Hid (wantB ws = true → ws.length = 64) := fun h => (wantB_gap h).1
  have HM : Hid (edgesB xs ys c = true → wantB ws = true → bestM ws xs ys c = (((bestF (costF ws xs ys c) 4).1 : Int), (bestF (costF ws xs ys c) 4).2)) := fun h hw => by unfold bestM; rw [h, hw]; rfl
  have HMn : Hid (¬ (edgesB xs ys c = true ∧ wantB ws = true) → bestM ws xs ys c = (0, -1)) := fun h => by unfold bestM; rw [if_neg (by simpa using h)]
  have HC : Hid (∀ m : Nat, costF ws xs ys c m = gapI ws (gueL (m : Int) xs ys c) + ueM m) := fun m => rfl
  have HCp : Hid (edgesB xs ys c = true → wantB ws = true → ∀ i, i < 4 → 1 ≤ costF ws xs ys c i) := fun h hw i hi => (costF_in h (wantB_gap hw).2 hi).1
  have HU : Hid (∀ m : Nat, m < 4 → ∀ w', Calls Try.prog 31 #[.int .i64 (m : Int)] w' fun e w'' => e = .returned (.int .i64 (ueM m)) ∧ Below w'.heap.size w' w'') := fun m hm w' => ue_spec m hm w'
  clear h0 h1 h2 m0 m1 m2
  generalize xs.length = n1 at *
  generalize ys.length = n2 at *
  generalize edgesB xs ys c = E at *
  generalize wantB ws = Wn at *
  generalize bestM ws xs ys c = R at *
  generalize costF ws xs ys c = C at *
  have B0 := Blk.new w #[.slice a1 n1 c1, .slice a2 n2 c2, .int .i64 c] 26
  have hb0 := (Below.refl w.heap.size w).alloc (Nat.le_refl _) (.cells #[.slice a1 n1 c1, .slice a2 n2 c2, .int .i64 c] 26)
  cases E with
  | false =>
    obtain rfl : R = (0, -1) := HMn.out (by simp)
    go_enter Try.func10, Try.ntmps10
    go_wp2_with fail
    generalize World.alloc w _ = V at *
    refine (HE.out V hb0).mono ?_
    rintro e w1 ⟨rfl, hb⟩
    have hb1 := hb0.trans (hb.mono hb0.size)
    clear hb hb0 B0
    go_wp2
    go_ret2
    exact ⟨rfl, hb1⟩
  | true =>
    go_enter Try.func10, Try.ntmps10
    go_wp2_with fail
    generalize World.alloc w _ = V at *
    refine (HE.out V hb0).mono ?_
    rintro e w1 ⟨rfl, hb⟩
    have hb1 := hb0.trans (hb.mono hb0.size)
    have B1 := B0.below hb B0.lt
    clear hb hb0 B0
    go_wp2_with fail
    refine (HA.out w1 hb1).mono ?_
    rintro e w2 ⟨rfl, hb⟩
    have hb2 := hb1.trans (hb.mono hb1.size)
    have B2 := B1.below hb B1.lt
    clear hb hb1 B1
    cases Wn with
    | false =>
      obtain rfl : R = (0, -1) := HMn.out (by simp)
      go_wp2
      go_ret2
      exact ⟨rfl, hb2⟩
    | true =>
      have hl : ws.length = 64 := HLn.out (by trivial)
      have HD2 : Hid (∀ (m : Nat), m < 4 → ∀ w', Below w.heap.size w w' → Calls Try.prog 30 #[.int .i64 (m : Int), edgV a1 n1 c1 a2 n2 c2 c] w' fun e w'' => (∃ p q, e = .returned (.slice p 64 q) ∧ Ints w'' p (gueL (m : Int) xs ys c)) ∧ Below w'.heap.size w' w'') := HD.out (by trivial)
      have HP2 : Hid (∀ m : Nat, m < 4 → ∀ p q w', Below w.heap.size w w' → Ints w' p (gueL (m : Int) xs ys c) → Calls Try.prog 14 #[.slice a0 64 c0, .slice p 64 q] w' fun e w'' => e = .returned (.int .i64 (gapI ws (gueL (m : Int) xs ys c))) ∧ Below w'.heap.size w' w'') := HP.out (by trivial) (by trivial)
      have HI2 : Hid (∀ m : Nat, m < 4 → 0 ≤ gapI ws (gueL (m : Int) xs ys c) ∧ gapI ws (gueL (m : Int) xs ys c) ≤ 128000) := HI.out (by trivial) (by trivial)
      have HR : Hid (R = (((bestF C 4).1 : Int), (bestF C 4).2)) := HM.out (by trivial) (by trivial)
      have HBd : Hid (∀ k, k ≤ 4 → (bestF C k).1 < 4 ∧ ((bestF C k).2 = -1 ∨ 1 ≤ (bestF C k).2)) := bestF_bd (HCp.out (by trivial) (by trivial))
      have HK : Hid (∀ w', Below w2.heap.size w2 w' → w'.cell? ⟨w.heap.size, 0, none⟩ = some (.slice a1 n1 c1) ∧ w'.cell? ⟨w.heap.size, 1, none⟩ = some (.slice a2 n2 c2) ∧ w'.cell? ⟨w.heap.size, 2, none⟩ = some (.int .i64 c)) := fun w' h => (B2.below h B2.lt).three.1
      rw [hl]
      clear B2 HE HD HI HM HMn HA HCp HP HLn hl
      go_wp2
      go_loopw [6, 7, 8] (fun u v i wr => ∃ (k b : Nat) (l : Int), k ≤ 4 ∧ i = .int .i64 (k : Int) ∧ u = .int .i64 (b : Int) ∧ v = .int .i64 l ∧ Hid (bestF C k = (b, l)) ∧ Below w2.heap.size w2 wr) (fun _ _ i _ => 4 - (intOf i).toNat)
      case atStart => exact ⟨0, 0, -1, by omega, rfl, rfl, rfl, rfl, Below.refl _ _⟩
      case round =>
        obtain ⟨k, b, l, hk, rfl, rfl, rfl, HBk, hb⟩ := hrel
        obtain ⟨x0, x1, x2⟩ := HK.out wr hb
        have hbw := hb2.trans (hb.mono hb2.size)
        have hlb : l = -1 ∨ 1 ≤ l := by have := (HBd.out k hk).2; rw [HBk.out] at this; exact this
        by_cases hlt : k < 4
        · have l0 : (0 : Int) ≤ (k : Int) := by omega
          have l1 : (k : Int) < 4 := by omega
          have HDk : Hid (Calls _ _ _ _ _) := HD2.out k hlt wr hbw
          have hp := HP2.out k hlt
          have HUk : Hid (∀ w', Calls Try.prog 31 #[.int .i64 (k : Int)] w' fun e w'' => e = .returned (.int .i64 (ueM k)) ∧ Below w'.heap.size w' w'') := HU.out k hlt
          obtain ⟨g0, g1⟩ := HI2.out k hlt
          have hCk : C k = gapI ws (gueL (k : Int) xs ys c) + ueM k := HC.out k
          have hub : 1 ≤ ueM k ∧ ueM k ≤ 5 := by unfold ueM; split <;> (try split) <;> omega
          have HPk : Hid (∀ p q w', Below w.heap.size w w' → Ints w' p (gueL (k : Int) xs ys c) → Calls Try.prog 14 #[.slice a0 64 c0, .slice p 64 q] w' fun e w'' => e = .returned (.int .i64 (gapI ws (gueL (k : Int) xs ys c))) ∧ Below w'.heap.size w' w'') := hp
          generalize gapI ws (gueL (k : Int) xs ys c) = G at *
          generalize ueM k = U at *
          have HCk : Hid (C k = G + U) := hCk
          clear hp hCk
          by_cases hl1 : l < 0
          · have hlm : l = -1 := by omega
            go_wp2_with (first
              | (go_at_call 30; refine HDk.out.mono ?_; rintro e w5 ⟨⟨p5, q5, rfl, hi5⟩, hc5⟩; have hb5 := hbw.trans (hc5.mono hbw.size))
              | (go_at_call 14; refine (HPk.out _ _ _ hb5 hi5).mono ?_; rintro e w6 ⟨rfl, hc6⟩)
              | (go_at_call 31; refine (HUk.out _).mono ?_; rintro e w7 ⟨rfl, hc7⟩))
            have hb8 := ((hb.trans (hc5.mono hb.size)).trans (hc6.mono (Nat.le_trans hb.size hc5.size))).trans (hc7.mono (Nat.le_trans (Nat.le_trans hb.size hc5.size) hc6.size))
            refine ⟨⟨k + 1, k, G + U, by omega, by go_num, by go_num, rfl, by show _ = _; rw [← HCk.out]; exact best_up HBk.out (.inl hlm), hb8⟩, ?_⟩
            simp [intOf]; omega
          · by_cases hl2 : G + U < l
            · go_wp2_with (first
                | (go_at_call 30; refine HDk.out.mono ?_; rintro e w5 ⟨⟨p5, q5, rfl, hi5⟩, hc5⟩; have hb5 := hbw.trans (hc5.mono hbw.size))
                | (go_at_call 14; refine (HPk.out _ _ _ hb5 hi5).mono ?_; rintro e w6 ⟨rfl, hc6⟩)
                | (go_at_call 31; refine (HUk.out _).mono ?_; rintro e w7 ⟨rfl, hc7⟩))
              have hb8 := ((hb.trans (hc5.mono hb.size)).trans (hc6.mono (Nat.le_trans hb.size hc5.size))).trans (hc7.mono (Nat.le_trans (Nat.le_trans hb.size hc5.size) hc6.size))
              refine ⟨⟨k + 1, k, G + U, by omega, by go_num, by go_num, rfl, by show _ = _; rw [← HCk.out]; exact best_up HBk.out (.inr (by rw [HCk.out]; exact hl2)), hb8⟩, ?_⟩
              simp [intOf]; omega
            · have hl3 : ¬ G + U < l := hl2
              go_wp2_with (first
                | (go_at_call 30; refine HDk.out.mono ?_; rintro e w5 ⟨⟨p5, q5, rfl, hi5⟩, hc5⟩; have hb5 := hbw.trans (hc5.mono hbw.size))
                | (go_at_call 14; refine (HPk.out _ _ _ hb5 hi5).mono ?_; rintro e w6 ⟨rfl, hc6⟩)
                | (go_at_call 31; refine (HUk.out _).mono ?_; rintro e w7 ⟨rfl, hc7⟩))
              have hb8 := ((hb.trans (hc5.mono hb.size)).trans (hc6.mono (Nat.le_trans hb.size hc5.size))).trans (hc7.mono (Nat.le_trans (Nat.le_trans hb.size hc5.size) hc6.size))
              refine ⟨⟨k + 1, b, l, by omega, by go_num, rfl, rfl, best_stay HBk.out (by omega) (by rw [HCk.out]; omega), hb8⟩, ?_⟩
              simp [intOf]; omega
        · obtain rfl : k = 4 := by omega
          have HRx : Hid (R = ((b : Int), l)) := by show _ = _; rw [HR.out, HBk.out]
          go_wp2
          go_ret2
          exact ⟨by rw [HRx.out]; rfl, hbw⟩
end Go.Proofs.Ytkakiollhhmmaaa
