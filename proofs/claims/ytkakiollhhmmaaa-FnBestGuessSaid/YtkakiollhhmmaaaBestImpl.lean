/-
  The best guess, the program's: the walk of impl.BestGuess.
-/
import Derived.Test.YtkakiollhhmmaaaGuessOfKit
import Derived.Test.YtkakiollhhmmaaaGuessOfSpec
import Derived.Test.YtkakiollhhmmaaaGapKit
import Derived.Test.YtkakiollhhmmaaaDotSqKit
import Derived.Test.YtkakiollhhmmaaaCountTops
namespace Go.Proofs.Ytkakiollhhmmaaa
open Go.RowKit
set_option linter.unusedVariables false
set_option maxRecDepth 20000

theorem ue_wid : ∀ m : Nat, m < 4 → 2 * (wid ((m : Int) + 1) : Int) - 1 = ueM m := by decide
theorem ue_impl (m : Nat) (hm : m < 4) (w : World) : Calls Try.prog 13 #[.int .i64 (m : Int)] w fun e w' => e = .returned (.int .i64 (ueM m)) ∧ w' = w := by
  rw [← ue_wid m hm]; exact implUeSize (m : Int) w ⟨by omega, by omega⟩
theorem ue_spec (m : Nat) (hm : m < 4) (w : World) : Calls Try.prog 31 #[.int .i64 (m : Int)] w fun e w' => e = .returned (.int .i64 (ueM m)) ∧ Below w.heap.size w w' := by
  rw [← ue_wid m hm]; exact specUeSize (m : Int) w ⟨by omega, by omega⟩
theorem dots_ints (xs ys : List Int) (c : Int) (m : Nat) (w : World) (h : edgesB xs ys c = true) (hm : m < 4) :
    Calls Try.prog 28 #[gueV xs ys c m] w fun e w' => (∃ p q, e = .returned (.slice p 64 q) ∧ Ints w' p (gueL (m : Int) xs ys c)) ∧ Below w.heap.size w w' := by
  rw [gueL_of h (by omega) (by omega)]
  refine (dots_gue xs ys c m w h hm).mono ?_
  rintro e w' ⟨⟨v, rfl, ho⟩, hb⟩
  obtain ⟨p, q, rfl, hi⟩ := owned_ints ho
  exact ⟨⟨p, q, rfl, hi⟩, hb⟩
theorem wantB_gap {ws : List Int} (h : wantB ws = true) : ws.length = 64 ∧ gapB ws = true := by
  unfold wantB at h
  simp at h
  exact ⟨h.1, gapB_dots h.1 h.2⟩
theorem best_up {C : Nat → Int} {k b : Nat} {l : Int} (h : bestF C k = (b, l)) (hc : l = -1 ∨ C k < l) : bestF C (k + 1) = (k, C k) := by
  rw [bestF, h, if_pos hc]
theorem best_stay {C : Nat → Int} {k b : Nat} {l : Int} (h : bestF C k = (b, l)) (h1 : ¬ l = -1) (h2 : ¬ C k < l) : bestF C (k + 1) = (b, l) := by
  rw [bestF, h, if_neg (by rintro (h | h) <;> omega)]

set_option maxHeartbeats 6400000 in
theorem implBestGuess (a0 a1 a2 : Option Addr) (c0 c1 c2 : Nat) (ws xs ys : List Int) (c : Int) (w : World) (h0 : Ints w a0 ws) (h1 : Ints w a1 xs) (h2 : Ints w a2 ys) (m0 : ws.length ≤ maxLen) (m1 : xs.length ≤ maxLen) (m2 : ys.length ≤ maxLen) :
    Calls Try.prog 9 #[.slice a0 ws.length c0, edgV a1 xs.length c1 a2 ys.length c2 c] w fun e w' => e = .returned (.tuple #[.int .i64 (bestM ws xs ys c).1, .int .i64 (bestM ws xs ys c).2]) ∧ Below w.heap.size w w' := by
  have HE : Hid (∀ w', Below w.heap.size w w' → Calls Try.prog 25 #[edgV a1 xs.length c1 a2 ys.length c2 c] w' fun e w'' => e = .returned (.bool (edgesB xs ys c)) ∧ Below w'.heap.size w' w'') := fun w' hb => implEdgesOk a1 a2 c1 c2 xs ys c w' (h1.below hb (Nat.le_refl _)) (h2.below hb (Nat.le_refl _)) m1 m2
  have HG : Hid (edgesB xs ys c = true → ∀ w', Below w.heap.size w w' → Calls Try.prog 27 #[edgV a1 xs.length c1 a2 ys.length c2 c] w' fun e w'' => ∃ g, e = .returned (.slice (some ⟨g, 0, none⟩) 4 4) ∧ Blk w'' g #[midV (midF xs ys), downV (fillF xs), acrossV (fillF ys), slopeV (slF (fillF xs) (fillF ys) (cornF c))] 51 ∧ Below w'.heap.size w' w'') := fun h w' hb => guesses_all a1 a2 c1 c2 xs ys c w' (h1.below hb (Nat.le_refl _)) (h2.below hb (Nat.le_refl _)) h
  have HD : Hid (edgesB xs ys c = true → ∀ (m : Nat), m < 4 → ∀ w', Calls Try.prog 28 #[gueV xs ys c m] w' fun e w'' => (∃ p q, e = .returned (.slice p 64 q) ∧ Ints w'' p (gueL (m : Int) xs ys c)) ∧ Below w'.heap.size w' w'') := fun h m hm w' => dots_ints xs ys c m w' h hm
  have HA : Hid (∀ w', Below w.heap.size w w' → Calls Try.prog 26 #[.slice a0 ws.length c0] w' fun e w'' => e = .returned (.bool (wantB ws)) ∧ Below w'.heap.size w' w'') := fun w' hb => dotSquareOk_any a0 c0 ws w' (h0.below hb (Nat.le_refl _)) m0
  have HP : Hid (edgesB xs ys c = true → ws.length = 64 → ∀ m : Nat, m < 4 → ∀ p q w', Below w.heap.size w w' → Ints w' p (gueL (m : Int) xs ys c) → Calls Try.prog 11 #[.slice a0 64 c0, .slice p 64 q] w' fun e w'' => e = .returned (.int .i64 (gapI ws (gueL (m : Int) xs ys c))) ∧ Below w'.heap.size w' w'') := fun h hw m hm p q w' hb hi => by
    have hl : (gueL (m : Int) xs ys c).length = 64 := by rw [gueL_of h (by omega) (by omega), listF_length]
    have := implGapOf a0 p c0 q ws (gueL (m : Int) xs ys c) w' (h0.below hb (Nat.le_refl _)) hi m0 (by rw [hl]; decide)
    rw [hw, hl] at this
    exact this
  have HI : Hid (edgesB xs ys c = true → wantB ws = true → ∀ m : Nat, m < 4 → 0 ≤ gapI ws (gueL (m : Int) xs ys c) ∧ gapI ws (gueL (m : Int) xs ys c) ≤ 128000) := fun h hw m hm => gapI_in (wantB_gap hw).2 (gapB_gue h (by omega) (by omega))
  have HW : Hid (wantB ws = true → ws.length = 64) := fun h => (wantB_gap h).1
  have HM : Hid (edgesB xs ys c = true → wantB ws = true → bestM ws xs ys c = (((bestF (costF ws xs ys c) 4).1 : Int), (bestF (costF ws xs ys c) 4).2)) := fun h hw => by unfold bestM; rw [h, hw]; rfl
  have HMn : Hid (¬ (edgesB xs ys c = true ∧ wantB ws = true) → bestM ws xs ys c = (0, -1)) := fun h => by unfold bestM; rw [if_neg (by simpa using h)]
  have HC : Hid (∀ m : Nat, costF ws xs ys c m = gapI ws (gueL (m : Int) xs ys c) + ueM m) := fun m => rfl
  have HU : Hid (∀ m : Nat, m < 4 → ∀ w', Calls Try.prog 13 #[.int .i64 (m : Int)] w' fun e w'' => e = .returned (.int .i64 (ueM m)) ∧ w'' = w') := fun m hm w' => ue_impl m hm w'
  have hmx : (ws.length : Int) ≤ 9223372036854775807 := by unfold maxLen at m0; omega
  clear h0 h1 h2 m0 m1 m2
  generalize xs.length = n1 at *
  generalize ys.length = n2 at *
  generalize edgesB xs ys c = E at *
  generalize wantB ws = Wn at *
  generalize bestM ws xs ys c = R at *
  generalize costF ws xs ys c = C at *
  have B0 := Blk.new w #[.slice a1 n1 c1, .slice a2 n2 c2, .int .i64 c] 26
  have hb0 := (Below.refl w.heap.size w).alloc (Nat.le_refl _) (.cells #[.slice a1 n1 c1, .slice a2 n2 c2, .int .i64 c] 26)
  cases E with
  | false =>
    obtain rfl : R = (0, -1) := HMn.out (by simp)
    go_enter Try.func9, Try.ntmps9
    go_wp2_with fail
    generalize World.alloc w _ = V at *
    refine (HE.out V hb0).mono ?_
    rintro e w1 ⟨rfl, hb⟩
    have hb1 := hb0.trans (hb.mono hb0.size)
    clear hb hb0 B0
    go_wp2
    go_ret2
    exact ⟨rfl, hb1⟩
  | true =>
    · go_enter Try.func9, Try.ntmps9
      go_wp2_with fail
      generalize World.alloc w _ = V at *
      refine (HE.out V hb0).mono ?_
      rintro e w1 ⟨rfl, hb⟩
      have hb1 := hb0.trans (hb.mono hb0.size)
      have B1 := B0.below hb B0.lt
      clear hb hb0 B0
      obtain ⟨⟨x0, x1, x2⟩, _⟩ := B1.three
      go_wp2_with fail
      refine (HA.out w1 hb1).mono ?_
      rintro e w2 ⟨rfl, hb⟩
      have hb2 := hb1.trans (hb.mono hb1.size)
      have B2 := B1.below hb B1.lt
      clear hb hb1 B1 x0 x1 x2
      cases Wn with
      | false =>
        obtain rfl : R = (0, -1) := HMn.out (by simp)
        go_wp2
        go_ret2
        exact ⟨rfl, hb2⟩
      | true =>
        have hl : ws.length = 64 := HW.out (by trivial)
        have HPx : Hid (∀ m : Nat, m < 4 → ∀ p q w', Below w.heap.size w w' → Ints w' p (gueL (m : Int) xs ys c) → Calls Try.prog 11 #[.slice a0 64 c0, .slice p 64 q] w' fun e w'' => e = .returned (.int .i64 (gapI ws (gueL (m : Int) xs ys c))) ∧ Below w'.heap.size w' w'') := HP.out (by trivial) hl
        rw [hl]
        clear HP HW hl hmx
        obtain ⟨⟨x0, x1, x2⟩, _⟩ := B2.three
        go_wp2_with fail
        refine (HG.out (by trivial) w2 hb2).mono ?_
        rintro e w3 ⟨g, rfl, bg, hb⟩
        have hb3 := hb2.trans (hb.mono hb2.size)
        have HD2 : Hid (∀ (m : Nat), m < 4 → ∀ w', Calls Try.prog 28 #[gueV xs ys c m] w' fun e w'' => (∃ p q, e = .returned (.slice p 64 q) ∧ Ints w'' p (gueL (m : Int) xs ys c)) ∧ Below w'.heap.size w' w'') := HD.out (by trivial)
        have HI2 : Hid (∀ m : Nat, m < 4 → 0 ≤ gapI ws (gueL (m : Int) xs ys c) ∧ gapI ws (gueL (m : Int) xs ys c) ≤ 128000) := HI.out (by trivial) (by trivial)
        have HR : Hid (R = (((bestF C 4).1 : Int), (bestF C 4).2)) := HM.out (by trivial) (by trivial)
        have HK : Hid (∀ w', Below w3.heap.size w3 w' → w'.cell? ⟨g, 0, none⟩ = some (midV (midF xs ys)) ∧ w'.cell? ⟨g, 1, none⟩ = some (downV (fillF xs)) ∧ w'.cell? ⟨g, 2, none⟩ = some (acrossV (fillF ys)) ∧ w'.cell? ⟨g, 3, none⟩ = some (slopeV (slF (fillF xs) (fillF ys) (cornF c)))) := fun w' h => (bg.below h bg.lt).four.1
        clear hb B2 x0 x1 x2 bg HE HG HD HI HM HMn HA hb2
        go_wp2_with fail
        go_loopw [6, 7, 22] (fun u v i wr => ∃ (k b : Nat) (l : Int), k ≤ 4 ∧ i = .int .i64 (k : Int) ∧ u = .int .i64 (b : Int) ∧ v = .int .i64 l ∧ Hid (bestF C k = (b, l)) ∧ Below w3.heap.size w3 wr) (fun _ _ i _ => 4 - (intOf i).toNat)
        case atStart => exact ⟨0, 0, -1, by omega, rfl, rfl, rfl, rfl, Below.refl _ _⟩
        case round =>
          obtain ⟨k, b, l, hk, rfl, rfl, rfl, HBk, hb⟩ := hrel
          obtain ⟨d0, d1, d2, d3⟩ := HK.out wr hb
          have hbw := hb3.trans (hb.mono hb3.size)
          rcases (show k = 0 ∨ k = 1 ∨ k = 2 ∨ k = 3 ∨ k = 4 by omega) with rfl | rfl | rfl | rfl | rfl
          · have hd := HD2.out 0 (by omega)
            have hp := HPx.out 0 (by omega)
            have hu := HU.out 0 (by omega)
            obtain ⟨g0, g1⟩ := HI2.out 0 (by omega)
            have hCk : C 0 = gapI ws (gueL (0 : Int) xs ys c) + 1 := HC.out 0
            have HDx : Hid (∀ w', Calls Try.prog 28 #[midV (midF xs ys)] w' fun e w'' => (∃ p q, e = .returned (.slice p 64 q) ∧ Ints w'' p (gueL (0 : Int) xs ys c)) ∧ Below w'.heap.size w' w'') := hd
            have HPk : Hid (∀ p q w', Below w.heap.size w w' → Ints w' p (gueL (0 : Int) xs ys c) → Calls Try.prog 11 #[.slice a0 64 c0, .slice p 64 q] w' fun e w'' => e = .returned (.int .i64 (gapI ws (gueL (0 : Int) xs ys c))) ∧ Below w'.heap.size w' w'') := hp
            have HUk : Hid (∀ w', Calls Try.prog 13 #[.int .i64 0] w' fun e w'' => e = .returned (.int .i64 1) ∧ w'' = w') := hu
            change 0 ≤ gapI ws (gueL (0 : Int) xs ys c) at g0
            change gapI ws (gueL (0 : Int) xs ys c) ≤ 128000 at g1
            generalize gapI ws (gueL (0 : Int) xs ys c) = G at *
            have HCk : Hid (C 0 = G + 1) := hCk
            clear hd hp hu hCk
            by_cases hl1 : l = -1
            · subst hl1
              go_wp2_with (first
                | (have hx := hc7; go_at_call 79; refine (mode0 _ _).mono ?_; rintro e w8 ⟨rfl, hc8⟩)
                | (go_at_call 79; refine (mode0 _ _).mono ?_; rintro e w7 ⟨rfl, hc7⟩)
                | (go_at_call 28; refine (HDx.out _).mono ?_; rintro e w5 ⟨⟨p5, q5, rfl, hi5⟩, hc5⟩; have hb5 := hbw.trans (hc5.mono hbw.size))
                | (go_at_call 11; refine (HPk.out _ _ _ hb5 hi5).mono ?_; rintro e w6 ⟨rfl, hc6⟩)
                | (go_at_call 13; refine (HUk.out _).mono ?_; rintro e wz ⟨rfl, hw⟩; subst wz))
              have hb8 := (((hb.trans (hc5.mono hb.size)).trans (hc6.mono (Nat.le_trans hb.size hc5.size))).trans (hc7.mono (Nat.le_trans (Nat.le_trans hb.size hc5.size) hc6.size))).trans (hc8.mono (Nat.le_trans (Nat.le_trans (Nat.le_trans hb.size hc5.size) hc6.size) hc7.size))
              refine ⟨⟨0 + 1, 0, G + 1, by omega, by go_num, by go_num, rfl, by show _ = _; rw [← HCk.out]; exact best_up HBk.out (.inl rfl), hb8⟩, ?_⟩
              simp [intOf]
            · have hq1 : (l == -1) = false := by rw [beq_eq_false_iff_ne]; exact hl1
              by_cases hl2 : G + 1 < l
              · go_wp2_with (first
                  | (have hx := hc7; go_at_call 79; refine (mode0 _ _).mono ?_; rintro e w8 ⟨rfl, hc8⟩)
                  | (go_at_call 79; refine (mode0 _ _).mono ?_; rintro e w7 ⟨rfl, hc7⟩)
                  | (go_at_call 28; refine (HDx.out _).mono ?_; rintro e w5 ⟨⟨p5, q5, rfl, hi5⟩, hc5⟩; have hb5 := hbw.trans (hc5.mono hbw.size))
                  | (go_at_call 11; refine (HPk.out _ _ _ hb5 hi5).mono ?_; rintro e w6 ⟨rfl, hc6⟩)
                  | (go_at_call 13; refine (HUk.out _).mono ?_; rintro e wz ⟨rfl, hw⟩; subst wz))
                have hb8 := (((hb.trans (hc5.mono hb.size)).trans (hc6.mono (Nat.le_trans hb.size hc5.size))).trans (hc7.mono (Nat.le_trans (Nat.le_trans hb.size hc5.size) hc6.size))).trans (hc8.mono (Nat.le_trans (Nat.le_trans (Nat.le_trans hb.size hc5.size) hc6.size) hc7.size))
                refine ⟨⟨0 + 1, 0, G + 1, by omega, by go_num, by go_num, rfl, by show _ = _; rw [← HCk.out]; exact best_up HBk.out (.inr (by rw [HCk.out]; exact hl2)), hb8⟩, ?_⟩
                simp [intOf]
              · go_wp2_with (first
                  | (have hx := hc7; go_at_call 79; refine (mode0 _ _).mono ?_; rintro e w8 ⟨rfl, hc8⟩)
                  | (go_at_call 79; refine (mode0 _ _).mono ?_; rintro e w7 ⟨rfl, hc7⟩)
                  | (go_at_call 28; refine (HDx.out _).mono ?_; rintro e w5 ⟨⟨p5, q5, rfl, hi5⟩, hc5⟩; have hb5 := hbw.trans (hc5.mono hbw.size))
                  | (go_at_call 11; refine (HPk.out _ _ _ hb5 hi5).mono ?_; rintro e w6 ⟨rfl, hc6⟩)
                  | (go_at_call 13; refine (HUk.out _).mono ?_; rintro e wz ⟨rfl, hw⟩; subst wz))
                have hb8 := ((hb.trans (hc5.mono hb.size)).trans (hc6.mono (Nat.le_trans hb.size hc5.size))).trans (hc7.mono (Nat.le_trans (Nat.le_trans hb.size hc5.size) hc6.size))
                refine ⟨⟨0 + 1, b, l, by omega, by go_num, rfl, rfl, best_stay HBk.out hl1 (by rw [HCk.out]; omega), hb8⟩, ?_⟩
                simp [intOf]
          · have hd := HD2.out 1 (by omega)
            have hp := HPx.out 1 (by omega)
            have hu := HU.out 1 (by omega)
            obtain ⟨g0, g1⟩ := HI2.out 1 (by omega)
            have hCk : C 1 = gapI ws (gueL (1 : Int) xs ys c) + 3 := HC.out 1
            have HDx : Hid (∀ w', Calls Try.prog 28 #[downV (fillF xs)] w' fun e w'' => (∃ p q, e = .returned (.slice p 64 q) ∧ Ints w'' p (gueL (1 : Int) xs ys c)) ∧ Below w'.heap.size w' w'') := hd
            have HPk : Hid (∀ p q w', Below w.heap.size w w' → Ints w' p (gueL (1 : Int) xs ys c) → Calls Try.prog 11 #[.slice a0 64 c0, .slice p 64 q] w' fun e w'' => e = .returned (.int .i64 (gapI ws (gueL (1 : Int) xs ys c))) ∧ Below w'.heap.size w' w'') := hp
            have HUk : Hid (∀ w', Calls Try.prog 13 #[.int .i64 1] w' fun e w'' => e = .returned (.int .i64 3) ∧ w'' = w') := hu
            change 0 ≤ gapI ws (gueL (1 : Int) xs ys c) at g0
            change gapI ws (gueL (1 : Int) xs ys c) ≤ 128000 at g1
            generalize gapI ws (gueL (1 : Int) xs ys c) = G at *
            have HCk : Hid (C 1 = G + 3) := hCk
            clear hd hp hu hCk
            by_cases hl1 : l = -1
            · subst hl1
              go_wp2_with (first
                | (have hx := hc7; go_at_call 80; refine (mode1 _ _).mono ?_; rintro e w8 ⟨rfl, hc8⟩)
                | (go_at_call 80; refine (mode1 _ _).mono ?_; rintro e w7 ⟨rfl, hc7⟩)
                | (go_at_call 28; refine (HDx.out _).mono ?_; rintro e w5 ⟨⟨p5, q5, rfl, hi5⟩, hc5⟩; have hb5 := hbw.trans (hc5.mono hbw.size))
                | (go_at_call 11; refine (HPk.out _ _ _ hb5 hi5).mono ?_; rintro e w6 ⟨rfl, hc6⟩)
                | (go_at_call 13; refine (HUk.out _).mono ?_; rintro e wz ⟨rfl, hw⟩; subst wz))
              have hb8 := (((hb.trans (hc5.mono hb.size)).trans (hc6.mono (Nat.le_trans hb.size hc5.size))).trans (hc7.mono (Nat.le_trans (Nat.le_trans hb.size hc5.size) hc6.size))).trans (hc8.mono (Nat.le_trans (Nat.le_trans (Nat.le_trans hb.size hc5.size) hc6.size) hc7.size))
              refine ⟨⟨1 + 1, 1, G + 3, by omega, by go_num, by go_num, rfl, by show _ = _; rw [← HCk.out]; exact best_up HBk.out (.inl rfl), hb8⟩, ?_⟩
              simp [intOf]
            · have hq1 : (l == -1) = false := by rw [beq_eq_false_iff_ne]; exact hl1
              by_cases hl2 : G + 3 < l
              · go_wp2_with (first
                  | (have hx := hc7; go_at_call 80; refine (mode1 _ _).mono ?_; rintro e w8 ⟨rfl, hc8⟩)
                  | (go_at_call 80; refine (mode1 _ _).mono ?_; rintro e w7 ⟨rfl, hc7⟩)
                  | (go_at_call 28; refine (HDx.out _).mono ?_; rintro e w5 ⟨⟨p5, q5, rfl, hi5⟩, hc5⟩; have hb5 := hbw.trans (hc5.mono hbw.size))
                  | (go_at_call 11; refine (HPk.out _ _ _ hb5 hi5).mono ?_; rintro e w6 ⟨rfl, hc6⟩)
                  | (go_at_call 13; refine (HUk.out _).mono ?_; rintro e wz ⟨rfl, hw⟩; subst wz))
                have hb8 := (((hb.trans (hc5.mono hb.size)).trans (hc6.mono (Nat.le_trans hb.size hc5.size))).trans (hc7.mono (Nat.le_trans (Nat.le_trans hb.size hc5.size) hc6.size))).trans (hc8.mono (Nat.le_trans (Nat.le_trans (Nat.le_trans hb.size hc5.size) hc6.size) hc7.size))
                refine ⟨⟨1 + 1, 1, G + 3, by omega, by go_num, by go_num, rfl, by show _ = _; rw [← HCk.out]; exact best_up HBk.out (.inr (by rw [HCk.out]; exact hl2)), hb8⟩, ?_⟩
                simp [intOf]
              · go_wp2_with (first
                  | (have hx := hc7; go_at_call 80; refine (mode1 _ _).mono ?_; rintro e w8 ⟨rfl, hc8⟩)
                  | (go_at_call 80; refine (mode1 _ _).mono ?_; rintro e w7 ⟨rfl, hc7⟩)
                  | (go_at_call 28; refine (HDx.out _).mono ?_; rintro e w5 ⟨⟨p5, q5, rfl, hi5⟩, hc5⟩; have hb5 := hbw.trans (hc5.mono hbw.size))
                  | (go_at_call 11; refine (HPk.out _ _ _ hb5 hi5).mono ?_; rintro e w6 ⟨rfl, hc6⟩)
                  | (go_at_call 13; refine (HUk.out _).mono ?_; rintro e wz ⟨rfl, hw⟩; subst wz))
                have hb8 := ((hb.trans (hc5.mono hb.size)).trans (hc6.mono (Nat.le_trans hb.size hc5.size))).trans (hc7.mono (Nat.le_trans (Nat.le_trans hb.size hc5.size) hc6.size))
                refine ⟨⟨1 + 1, b, l, by omega, by go_num, rfl, rfl, best_stay HBk.out hl1 (by rw [HCk.out]; omega), hb8⟩, ?_⟩
                simp [intOf]
          · have hd := HD2.out 2 (by omega)
            have hp := HPx.out 2 (by omega)
            have hu := HU.out 2 (by omega)
            obtain ⟨g0, g1⟩ := HI2.out 2 (by omega)
            have hCk : C 2 = gapI ws (gueL (2 : Int) xs ys c) + 3 := HC.out 2
            have HDx : Hid (∀ w', Calls Try.prog 28 #[acrossV (fillF ys)] w' fun e w'' => (∃ p q, e = .returned (.slice p 64 q) ∧ Ints w'' p (gueL (2 : Int) xs ys c)) ∧ Below w'.heap.size w' w'') := hd
            have HPk : Hid (∀ p q w', Below w.heap.size w w' → Ints w' p (gueL (2 : Int) xs ys c) → Calls Try.prog 11 #[.slice a0 64 c0, .slice p 64 q] w' fun e w'' => e = .returned (.int .i64 (gapI ws (gueL (2 : Int) xs ys c))) ∧ Below w'.heap.size w' w'') := hp
            have HUk : Hid (∀ w', Calls Try.prog 13 #[.int .i64 2] w' fun e w'' => e = .returned (.int .i64 3) ∧ w'' = w') := hu
            change 0 ≤ gapI ws (gueL (2 : Int) xs ys c) at g0
            change gapI ws (gueL (2 : Int) xs ys c) ≤ 128000 at g1
            generalize gapI ws (gueL (2 : Int) xs ys c) = G at *
            have HCk : Hid (C 2 = G + 3) := hCk
            clear hd hp hu hCk
            by_cases hl1 : l = -1
            · subst hl1
              go_wp2_with (first
                | (have hx := hc7; go_at_call 81; refine (mode2 _ _).mono ?_; rintro e w8 ⟨rfl, hc8⟩)
                | (go_at_call 81; refine (mode2 _ _).mono ?_; rintro e w7 ⟨rfl, hc7⟩)
                | (go_at_call 28; refine (HDx.out _).mono ?_; rintro e w5 ⟨⟨p5, q5, rfl, hi5⟩, hc5⟩; have hb5 := hbw.trans (hc5.mono hbw.size))
                | (go_at_call 11; refine (HPk.out _ _ _ hb5 hi5).mono ?_; rintro e w6 ⟨rfl, hc6⟩)
                | (go_at_call 13; refine (HUk.out _).mono ?_; rintro e wz ⟨rfl, hw⟩; subst wz))
              have hb8 := (((hb.trans (hc5.mono hb.size)).trans (hc6.mono (Nat.le_trans hb.size hc5.size))).trans (hc7.mono (Nat.le_trans (Nat.le_trans hb.size hc5.size) hc6.size))).trans (hc8.mono (Nat.le_trans (Nat.le_trans (Nat.le_trans hb.size hc5.size) hc6.size) hc7.size))
              refine ⟨⟨2 + 1, 2, G + 3, by omega, by go_num, by go_num, rfl, by show _ = _; rw [← HCk.out]; exact best_up HBk.out (.inl rfl), hb8⟩, ?_⟩
              simp [intOf]
            · have hq1 : (l == -1) = false := by rw [beq_eq_false_iff_ne]; exact hl1
              by_cases hl2 : G + 3 < l
              · go_wp2_with (first
                  | (have hx := hc7; go_at_call 81; refine (mode2 _ _).mono ?_; rintro e w8 ⟨rfl, hc8⟩)
                  | (go_at_call 81; refine (mode2 _ _).mono ?_; rintro e w7 ⟨rfl, hc7⟩)
                  | (go_at_call 28; refine (HDx.out _).mono ?_; rintro e w5 ⟨⟨p5, q5, rfl, hi5⟩, hc5⟩; have hb5 := hbw.trans (hc5.mono hbw.size))
                  | (go_at_call 11; refine (HPk.out _ _ _ hb5 hi5).mono ?_; rintro e w6 ⟨rfl, hc6⟩)
                  | (go_at_call 13; refine (HUk.out _).mono ?_; rintro e wz ⟨rfl, hw⟩; subst wz))
                have hb8 := (((hb.trans (hc5.mono hb.size)).trans (hc6.mono (Nat.le_trans hb.size hc5.size))).trans (hc7.mono (Nat.le_trans (Nat.le_trans hb.size hc5.size) hc6.size))).trans (hc8.mono (Nat.le_trans (Nat.le_trans (Nat.le_trans hb.size hc5.size) hc6.size) hc7.size))
                refine ⟨⟨2 + 1, 2, G + 3, by omega, by go_num, by go_num, rfl, by show _ = _; rw [← HCk.out]; exact best_up HBk.out (.inr (by rw [HCk.out]; exact hl2)), hb8⟩, ?_⟩
                simp [intOf]
              · go_wp2_with (first
                  | (have hx := hc7; go_at_call 81; refine (mode2 _ _).mono ?_; rintro e w8 ⟨rfl, hc8⟩)
                  | (go_at_call 81; refine (mode2 _ _).mono ?_; rintro e w7 ⟨rfl, hc7⟩)
                  | (go_at_call 28; refine (HDx.out _).mono ?_; rintro e w5 ⟨⟨p5, q5, rfl, hi5⟩, hc5⟩; have hb5 := hbw.trans (hc5.mono hbw.size))
                  | (go_at_call 11; refine (HPk.out _ _ _ hb5 hi5).mono ?_; rintro e w6 ⟨rfl, hc6⟩)
                  | (go_at_call 13; refine (HUk.out _).mono ?_; rintro e wz ⟨rfl, hw⟩; subst wz))
                have hb8 := ((hb.trans (hc5.mono hb.size)).trans (hc6.mono (Nat.le_trans hb.size hc5.size))).trans (hc7.mono (Nat.le_trans (Nat.le_trans hb.size hc5.size) hc6.size))
                refine ⟨⟨2 + 1, b, l, by omega, by go_num, rfl, rfl, best_stay HBk.out hl1 (by rw [HCk.out]; omega), hb8⟩, ?_⟩
                simp [intOf]
          · have hd := HD2.out 3 (by omega)
            have hp := HPx.out 3 (by omega)
            have hu := HU.out 3 (by omega)
            obtain ⟨g0, g1⟩ := HI2.out 3 (by omega)
            have hCk : C 3 = gapI ws (gueL (3 : Int) xs ys c) + 5 := HC.out 3
            have HDx : Hid (∀ w', Calls Try.prog 28 #[slopeV (slF (fillF xs) (fillF ys) (cornF c))] w' fun e w'' => (∃ p q, e = .returned (.slice p 64 q) ∧ Ints w'' p (gueL (3 : Int) xs ys c)) ∧ Below w'.heap.size w' w'') := hd
            have HPk : Hid (∀ p q w', Below w.heap.size w w' → Ints w' p (gueL (3 : Int) xs ys c) → Calls Try.prog 11 #[.slice a0 64 c0, .slice p 64 q] w' fun e w'' => e = .returned (.int .i64 (gapI ws (gueL (3 : Int) xs ys c))) ∧ Below w'.heap.size w' w'') := hp
            have HUk : Hid (∀ w', Calls Try.prog 13 #[.int .i64 3] w' fun e w'' => e = .returned (.int .i64 5) ∧ w'' = w') := hu
            change 0 ≤ gapI ws (gueL (3 : Int) xs ys c) at g0
            change gapI ws (gueL (3 : Int) xs ys c) ≤ 128000 at g1
            generalize gapI ws (gueL (3 : Int) xs ys c) = G at *
            have HCk : Hid (C 3 = G + 5) := hCk
            clear hd hp hu hCk
            by_cases hl1 : l = -1
            · subst hl1
              go_wp2_with (first
                | (have hx := hc7; go_at_call 82; refine (mode3 _ _).mono ?_; rintro e w8 ⟨rfl, hc8⟩)
                | (go_at_call 82; refine (mode3 _ _).mono ?_; rintro e w7 ⟨rfl, hc7⟩)
                | (go_at_call 28; refine (HDx.out _).mono ?_; rintro e w5 ⟨⟨p5, q5, rfl, hi5⟩, hc5⟩; have hb5 := hbw.trans (hc5.mono hbw.size))
                | (go_at_call 11; refine (HPk.out _ _ _ hb5 hi5).mono ?_; rintro e w6 ⟨rfl, hc6⟩)
                | (go_at_call 13; refine (HUk.out _).mono ?_; rintro e wz ⟨rfl, hw⟩; subst wz))
              have hb8 := (((hb.trans (hc5.mono hb.size)).trans (hc6.mono (Nat.le_trans hb.size hc5.size))).trans (hc7.mono (Nat.le_trans (Nat.le_trans hb.size hc5.size) hc6.size))).trans (hc8.mono (Nat.le_trans (Nat.le_trans (Nat.le_trans hb.size hc5.size) hc6.size) hc7.size))
              refine ⟨⟨3 + 1, 3, G + 5, by omega, by go_num, by go_num, rfl, by show _ = _; rw [← HCk.out]; exact best_up HBk.out (.inl rfl), hb8⟩, ?_⟩
              simp [intOf]
            · have hq1 : (l == -1) = false := by rw [beq_eq_false_iff_ne]; exact hl1
              by_cases hl2 : G + 5 < l
              · go_wp2_with (first
                  | (have hx := hc7; go_at_call 82; refine (mode3 _ _).mono ?_; rintro e w8 ⟨rfl, hc8⟩)
                  | (go_at_call 82; refine (mode3 _ _).mono ?_; rintro e w7 ⟨rfl, hc7⟩)
                  | (go_at_call 28; refine (HDx.out _).mono ?_; rintro e w5 ⟨⟨p5, q5, rfl, hi5⟩, hc5⟩; have hb5 := hbw.trans (hc5.mono hbw.size))
                  | (go_at_call 11; refine (HPk.out _ _ _ hb5 hi5).mono ?_; rintro e w6 ⟨rfl, hc6⟩)
                  | (go_at_call 13; refine (HUk.out _).mono ?_; rintro e wz ⟨rfl, hw⟩; subst wz))
                have hb8 := (((hb.trans (hc5.mono hb.size)).trans (hc6.mono (Nat.le_trans hb.size hc5.size))).trans (hc7.mono (Nat.le_trans (Nat.le_trans hb.size hc5.size) hc6.size))).trans (hc8.mono (Nat.le_trans (Nat.le_trans (Nat.le_trans hb.size hc5.size) hc6.size) hc7.size))
                refine ⟨⟨3 + 1, 3, G + 5, by omega, by go_num, by go_num, rfl, by show _ = _; rw [← HCk.out]; exact best_up HBk.out (.inr (by rw [HCk.out]; exact hl2)), hb8⟩, ?_⟩
                simp [intOf]
              · go_wp2_with (first
                  | (have hx := hc7; go_at_call 82; refine (mode3 _ _).mono ?_; rintro e w8 ⟨rfl, hc8⟩)
                  | (go_at_call 82; refine (mode3 _ _).mono ?_; rintro e w7 ⟨rfl, hc7⟩)
                  | (go_at_call 28; refine (HDx.out _).mono ?_; rintro e w5 ⟨⟨p5, q5, rfl, hi5⟩, hc5⟩; have hb5 := hbw.trans (hc5.mono hbw.size))
                  | (go_at_call 11; refine (HPk.out _ _ _ hb5 hi5).mono ?_; rintro e w6 ⟨rfl, hc6⟩)
                  | (go_at_call 13; refine (HUk.out _).mono ?_; rintro e wz ⟨rfl, hw⟩; subst wz))
                have hb8 := ((hb.trans (hc5.mono hb.size)).trans (hc6.mono (Nat.le_trans hb.size hc5.size))).trans (hc7.mono (Nat.le_trans (Nat.le_trans hb.size hc5.size) hc6.size))
                refine ⟨⟨3 + 1, b, l, by omega, by go_num, rfl, rfl, best_stay HBk.out hl1 (by rw [HCk.out]; omega), hb8⟩, ?_⟩
                simp [intOf]
          · have HRx : Hid (R = ((b : Int), l)) := by show _ = _; rw [HR.out, HBk.out]
            clear d0 d1 d2 d3
            go_wp2
            go_ret2
            exact ⟨by rw [HRx.out]; rfl, hbw⟩
end Go.Proofs.Ytkakiollhhmmaaa
