/-
  A guess of edges: the four guesses with their modes and their dots, and the walk of impl.GuessOf.
-/
import Derived.Test.YtkakiollhhmmaaaGuessesOf
import Derived.Handy
namespace Go.Proofs.Ytkakiollhhmmaaa
open Go.RowKit
set_option linter.unusedVariables false
set_option maxRecDepth 20000

/-- The guess of a mode. -/
def gueV (xs ys : List Int) (c : Int) (m : Nat) : Value :=
  if m = 0 then midV (midF xs ys) else if m = 1 then downV (fillF xs) else if m = 2 then acrossV (fillF ys) else slopeV (slF (fillF xs) (fillF ys) (cornF c))

theorem slF_in {xs ys : List Int} {c : Int} (h : edgesB xs ys c = true) : ∀ i, i < 17 → 0 ≤ slF (fillF xs) (fillF ys) (cornF c) i ∧ slF (fillF xs) (fillF ys) (cornF c) i ≤ 255 := fun i hi => by
  obtain ⟨hx, hy, hc⟩ := edgesB_iff.1 h
  unfold slF
  split
  · exact fillF_in hx (by omega)
  · split
    · exact fillF_in hy (by omega)
    · exact cornF_in hc

theorem dots_gue (xs ys : List Int) (c : Int) (m : Nat) (w : World) (h : edgesB xs ys c = true) (hm : m < 4) :
    Calls Try.prog 28 #[gueV xs ys c m] w fun e w' => (∃ v, e = .returned v ∧ w'.ownsRow w.heap.size 3 1 v 64 ((listF 64 (gueF m xs ys c)).map (Value.int .i64))) ∧ Below w.heap.size w w' := by
  rcases (show m = 0 ∨ m = 1 ∨ m = 2 ∨ m = 3 by omega) with rfl | rfl | rfl | rfl
  · have e : listF 64 (gueF 0 xs ys c) = listF 64 (fun i => (fun _ _ => midF xs ys : Nat → Nat → Int) (i / 8) (i % 8)) := listF_congr fun i hi => rfl
    rw [e]
    exact dotsOf_any (midV (midF xs ys)) (fun _ _ => midF xs ys) w (fun r hr W => row_mid _ r W)
  · have e : listF 64 (gueF 1 xs ys c) = listF 64 (fun i => (fun _ j => fillF xs j : Nat → Nat → Int) (i / 8) (i % 8)) := listF_congr fun i hi => rfl
    rw [e]
    exact dotsOf_any (downV (fillF xs)) (fun _ j => fillF xs j) w (fun r hr W => row_down _ r W)
  · have e : listF 64 (gueF 2 xs ys c) = listF 64 (fun i => (fun r _ => fillF ys r : Nat → Nat → Int) (i / 8) (i % 8)) := listF_congr fun i hi => rfl
    rw [e]
    exact dotsOf_any (acrossV (fillF ys)) (fun r _ => fillF ys r) w (fun r hr W => row_across _ r W hr)
  · have e : listF 64 (gueF 3 xs ys c) = listF 64 (fun i => slopeR (slF (fillF xs) (fillF ys) (cornF c)) (i / 8) (i % 8)) := listF_congr fun i hi => by
      show brF _ 0 255 = brF _ 0 255
      have e1 : slF (fillF xs) (fillF ys) (cornF c) (8 + i / 8) = fillF ys (i / 8) := by
        unfold slF; rw [if_neg (by omega), if_pos (by omega), show 8 + i / 8 - 8 = i / 8 by omega]
      have e2 : slF (fillF xs) (fillF ys) (cornF c) (i % 8) = fillF xs (i % 8) := by unfold slF; rw [if_pos (by omega)]
      have e3 : slF (fillF xs) (fillF ys) (cornF c) 16 = cornF c := by unfold slF; rw [if_neg (by omega), if_neg (by omega)]
      rw [e1, e2, e3]
    rw [e]
    exact dotsOf_any (slopeV (slF (fillF xs) (fillF ys) (cornF c))) (slopeR (slF (fillF xs) (fillF ys) (cornF c))) w (fun r hr W => row_slope _ r W hr (slF_in h))

theorem guesses_all (a1 a2 : Option Addr) (c1 c2 : Nat) (xs ys : List Int) (c : Int) (w : World) (h1 : Ints w a1 xs) (h2 : Ints w a2 ys) (h : edgesB xs ys c = true) :
    Calls Try.prog 27 #[edgV a1 xs.length c1 a2 ys.length c2 c] w fun e w' => ∃ g, e = .returned (.slice (some ⟨g, 0, none⟩) 4 4) ∧ Blk w' g #[midV (midF xs ys), downV (fillF xs), acrossV (fillF ys), slopeV (slF (fillF xs) (fillF ys) (cornF c))] 51 ∧ Below w.heap.size w w' := by
  obtain ⟨hx, hy, hc⟩ := edgesB_iff.1 h
  exact guessesOf_any a1 a2 c1 c2 xs.length ys.length c (midF xs ys) (fillF xs) (fillF ys) w
    (fun W hb => beside_any a1 c1 xs W (h1.below hb (Nat.le_refl _)) hx)
    (fun W hb => beside_any a2 c2 ys W (h2.below hb (Nat.le_refl _)) hy)
    (fun W hb => middle_any a1 a2 c1 c2 xs ys c W (h1.below hb (Nat.le_refl _)) (h2.below hb (Nat.le_refl _)) hx hy)

set_option maxHeartbeats 3200000 in
theorem implGuessOf (M : Int) (a1 a2 : Option Addr) (c1 c2 : Nat) (xs ys : List Int) (c : Int) (w : World) (h1 : Ints w a1 xs) (h2 : Ints w a2 ys) (m1 : xs.length ≤ maxLen) (m2 : ys.length ≤ maxLen) :
    Calls Try.prog 12 #[.int .i64 M, edgV a1 xs.length c1 a2 ys.length c2 c] w fun e w' => (∃ v, e = .returned v ∧ w'.ownsRow w.heap.size 3 1 v (gueL M xs ys c).length ((gueL M xs ys c).map (Value.int .i64))) ∧ Below w.heap.size w w' := by
  have HE : Hid (∀ w', Below w.heap.size w w' → Calls Try.prog 25 #[edgV a1 xs.length c1 a2 ys.length c2 c] w' fun e w'' => e = .returned (.bool (edgesB xs ys c)) ∧ Below w'.heap.size w' w'') := fun w' hb => implEdgesOk a1 a2 c1 c2 xs ys c w' (h1.below hb (Nat.le_refl _)) (h2.below hb (Nat.le_refl _)) m1 m2
  have HG : Hid (edgesB xs ys c = true → ∀ w', Below w.heap.size w w' → Calls Try.prog 27 #[edgV a1 xs.length c1 a2 ys.length c2 c] w' fun e w'' => ∃ g, e = .returned (.slice (some ⟨g, 0, none⟩) 4 4) ∧ Blk w'' g #[midV (midF xs ys), downV (fillF xs), acrossV (fillF ys), slopeV (slF (fillF xs) (fillF ys) (cornF c))] 51 ∧ Below w'.heap.size w' w'') := fun h w' hb => guesses_all a1 a2 c1 c2 xs ys c w' (h1.below hb (Nat.le_refl _)) (h2.below hb (Nat.le_refl _)) h
  have HD : Hid (edgesB xs ys c = true → ∀ (m : Nat), m < 4 → ∀ w', Calls Try.prog 28 #[gueV xs ys c m] w' fun e w'' => (∃ v, e = .returned v ∧ w''.ownsRow w'.heap.size 3 1 v 64 ((gueL (m : Int) xs ys c).map (Value.int .i64))) ∧ Below w'.heap.size w' w'') := fun h m hm w' => by
    rw [gueL_of h (by omega) (by omega)]
    exact dots_gue xs ys c m w' h hm
  have HL : Hid (edgesB xs ys c = true → ∀ m : Nat, m < 4 → (gueL (m : Int) xs ys c).length = 64) := fun h m hm => by rw [gueL_of h (by omega) (by omega), listF_length]
  have HB : Hid (edgesB xs ys c = false → gueL M xs ys c = []) := fun h => gueL_bad h
  have HN : Hid (¬ (0 ≤ M ∧ M ≤ 3) → gueL M xs ys c = []) := fun h => gueL_no h
  clear h1 h2 m1 m2
  generalize xs.length = n1 at *
  generalize ys.length = n2 at *
  generalize edgesB xs ys c = E at *
  go_enter Try.func12, Try.ntmps12
  go_wp2_with fail
  have B0 := Blk.new w #[.slice a1 n1 c1, .slice a2 n2 c2, .int .i64 c] 26
  have hb0 := (Below.refl w.heap.size w).alloc (Nat.le_refl _) (.cells #[.slice a1 n1 c1, .slice a2 n2 c2, .int .i64 c] 26)
  generalize World.alloc w _ = V at *
  refine (HE.out V hb0).mono ?_
  rintro e w1 ⟨rfl, hb⟩
  have hb1 := hb0.trans (hb.mono hb0.size)
  have B1 := B0.below hb B0.lt
  clear hb hb0 B0
  cases E with
  | false =>
    have HV : Hid (gueL M xs ys c = []) := HB.out rfl
    have ho := own_none w1 (B := w.heap.size) hb1.size
    have hb2 := hb1.alloc hb1.size (.cells #[] 3)
    clear B1
    go_wp2
    go_ret
    exact ⟨⟨_, rfl, by rw [HV.out]; exact ho⟩, hb2⟩
  | true =>
    obtain ⟨⟨x0, x1, x2⟩, _⟩ := B1.three
    go_wp2_with fail
    refine (HG.out (by trivial) w1 hb1).mono ?_
    rintro e w2 ⟨g, rfl, bg, hb⟩
    have hb2 := hb1.trans (hb.mono hb1.size)
    have HD2 : Hid (∀ (m : Nat), m < 4 → ∀ w', Calls Try.prog 28 #[gueV xs ys c m] w' fun e w'' => (∃ v, e = .returned v ∧ w''.ownsRow w'.heap.size 3 1 v 64 ((gueL (m : Int) xs ys c).map (Value.int .i64))) ∧ Below w'.heap.size w' w'') := HD.out (by trivial)
    have HL2 : Hid (∀ m : Nat, m < 4 → (gueL (m : Int) xs ys c).length = 64) := HL.out (by trivial)
    have HK : Hid (∀ w', Below w2.heap.size w2 w' → w'.cell? ⟨g, 0, none⟩ = some (midV (midF xs ys)) ∧ w'.cell? ⟨g, 1, none⟩ = some (downV (fillF xs)) ∧ w'.cell? ⟨g, 2, none⟩ = some (acrossV (fillF ys)) ∧ w'.cell? ⟨g, 3, none⟩ = some (slopeV (slF (fillF xs) (fillF ys) (cornF c)))) := fun w' h => (bg.below h bg.lt).four.1
    clear hb B1 x0 x1 x2 bg HE HG HD HL HB
    go_wp2_with fail
    go_loopw [14] (fun i wr => ∃ k : Nat, k ≤ 4 ∧ i = .int .i64 (k : Int) ∧ (∀ j : Nat, j < k → ¬ (j : Int) = M) ∧ Below w2.heap.size w2 wr) (fun i _ => 4 - (intOf i).toNat)
    case atStart => exact ⟨0, by omega, rfl, fun j hj => by omega, Below.refl _ _⟩
    case round =>
      obtain ⟨k, hk, rfl, hne, hb⟩ := hrel
      obtain ⟨d0, d1, d2, d3⟩ := HK.out wr hb
      have hs2 := hb2.size
      rcases (show k = 0 ∨ k = 1 ∨ k = 2 ∨ k = 3 ∨ k = 4 by omega) with rfl | rfl | rfl | rfl | rfl
      · by_cases hM : (0 : Int) = M
        · have hd := HD2.out 0 (by omega)
          have hl : (gueL (0 : Int) xs ys c).length = 64 := HL2.out 0 (by omega)
          subst hM
          have HDx : Hid (∀ w', Calls Try.prog 28 #[midV (midF xs ys)] w' fun e w'' => (∃ v, e = .returned v ∧ w''.ownsRow w'.heap.size 3 1 v 64 ((gueL 0 xs ys c).map (Value.int .i64))) ∧ Below w'.heap.size w' w'') := hd
          have HLx : Hid ((gueL (0 : Int) xs ys c).length = 64) := hl
          clear hd hl hne
          go_wp2_with (first
            | (go_at_call 79; refine (mode0 _ _).mono ?_; rintro e w5 ⟨rfl, hc5⟩)
            | (go_at_call 28; refine (HDx.out _).mono ?_; rintro e w6 ⟨⟨v, rfl, ho⟩, hc6⟩))
          go_ret
          have hb5 := (hb2.trans (hb.mono hs2)).trans (hc5.mono (Nat.le_trans hs2 hb.size))
          exact ⟨⟨_, rfl, by rw [HLx.out]; exact own_mono ho hb5.size⟩, hb5.trans (hc6.mono hb5.size)⟩
        · have hM2 : ((0 : Int) == M) = false := by rw [beq_eq_false_iff_ne]; exact hM
          go_wp2_with (go_at_call 79; refine (mode0 _ _).mono ?_; rintro e w5 ⟨rfl, hc5⟩)
          refine ⟨⟨0 + 1, by omega, by go_num, fun j hj => ?_, hb.trans (hc5.mono hb.size)⟩, ?_⟩
          · rcases (show j < 0 ∨ j = 0 by omega) with h | rfl
            · exact hne j h
            · exact hM
          · simp [intOf]
      · by_cases hM : (1 : Int) = M
        · have hd := HD2.out 1 (by omega)
          have hl : (gueL (1 : Int) xs ys c).length = 64 := HL2.out 1 (by omega)
          subst hM
          have HDx : Hid (∀ w', Calls Try.prog 28 #[downV (fillF xs)] w' fun e w'' => (∃ v, e = .returned v ∧ w''.ownsRow w'.heap.size 3 1 v 64 ((gueL 1 xs ys c).map (Value.int .i64))) ∧ Below w'.heap.size w' w'') := hd
          have HLx : Hid ((gueL (1 : Int) xs ys c).length = 64) := hl
          clear hd hl hne
          go_wp2_with (first
            | (go_at_call 80; refine (mode1 _ _).mono ?_; rintro e w5 ⟨rfl, hc5⟩)
            | (go_at_call 28; refine (HDx.out _).mono ?_; rintro e w6 ⟨⟨v, rfl, ho⟩, hc6⟩))
          go_ret
          have hb5 := (hb2.trans (hb.mono hs2)).trans (hc5.mono (Nat.le_trans hs2 hb.size))
          exact ⟨⟨_, rfl, by rw [HLx.out]; exact own_mono ho hb5.size⟩, hb5.trans (hc6.mono hb5.size)⟩
        · have hM2 : ((1 : Int) == M) = false := by rw [beq_eq_false_iff_ne]; exact hM
          go_wp2_with (go_at_call 80; refine (mode1 _ _).mono ?_; rintro e w5 ⟨rfl, hc5⟩)
          refine ⟨⟨1 + 1, by omega, by go_num, fun j hj => ?_, hb.trans (hc5.mono hb.size)⟩, ?_⟩
          · rcases (show j < 1 ∨ j = 1 by omega) with h | rfl
            · exact hne j h
            · exact hM
          · simp [intOf]
      · by_cases hM : (2 : Int) = M
        · have hd := HD2.out 2 (by omega)
          have hl : (gueL (2 : Int) xs ys c).length = 64 := HL2.out 2 (by omega)
          subst hM
          have HDx : Hid (∀ w', Calls Try.prog 28 #[acrossV (fillF ys)] w' fun e w'' => (∃ v, e = .returned v ∧ w''.ownsRow w'.heap.size 3 1 v 64 ((gueL 2 xs ys c).map (Value.int .i64))) ∧ Below w'.heap.size w' w'') := hd
          have HLx : Hid ((gueL (2 : Int) xs ys c).length = 64) := hl
          clear hd hl hne
          go_wp2_with (first
            | (go_at_call 81; refine (mode2 _ _).mono ?_; rintro e w5 ⟨rfl, hc5⟩)
            | (go_at_call 28; refine (HDx.out _).mono ?_; rintro e w6 ⟨⟨v, rfl, ho⟩, hc6⟩))
          go_ret
          have hb5 := (hb2.trans (hb.mono hs2)).trans (hc5.mono (Nat.le_trans hs2 hb.size))
          exact ⟨⟨_, rfl, by rw [HLx.out]; exact own_mono ho hb5.size⟩, hb5.trans (hc6.mono hb5.size)⟩
        · have hM2 : ((2 : Int) == M) = false := by rw [beq_eq_false_iff_ne]; exact hM
          go_wp2_with (go_at_call 81; refine (mode2 _ _).mono ?_; rintro e w5 ⟨rfl, hc5⟩)
          refine ⟨⟨2 + 1, by omega, by go_num, fun j hj => ?_, hb.trans (hc5.mono hb.size)⟩, ?_⟩
          · rcases (show j < 2 ∨ j = 2 by omega) with h | rfl
            · exact hne j h
            · exact hM
          · simp [intOf]
      · by_cases hM : (3 : Int) = M
        · have hd := HD2.out 3 (by omega)
          have hl : (gueL (3 : Int) xs ys c).length = 64 := HL2.out 3 (by omega)
          subst hM
          have HDx : Hid (∀ w', Calls Try.prog 28 #[slopeV (slF (fillF xs) (fillF ys) (cornF c))] w' fun e w'' => (∃ v, e = .returned v ∧ w''.ownsRow w'.heap.size 3 1 v 64 ((gueL 3 xs ys c).map (Value.int .i64))) ∧ Below w'.heap.size w' w'') := hd
          have HLx : Hid ((gueL (3 : Int) xs ys c).length = 64) := hl
          clear hd hl hne
          go_wp2_with (first
            | (go_at_call 82; refine (mode3 _ _).mono ?_; rintro e w5 ⟨rfl, hc5⟩)
            | (go_at_call 28; refine (HDx.out _).mono ?_; rintro e w6 ⟨⟨v, rfl, ho⟩, hc6⟩))
          go_ret
          have hb5 := (hb2.trans (hb.mono hs2)).trans (hc5.mono (Nat.le_trans hs2 hb.size))
          exact ⟨⟨_, rfl, by rw [HLx.out]; exact own_mono ho hb5.size⟩, hb5.trans (hc6.mono hb5.size)⟩
        · have hM2 : ((3 : Int) == M) = false := by rw [beq_eq_false_iff_ne]; exact hM
          go_wp2_with (go_at_call 82; refine (mode3 _ _).mono ?_; rintro e w5 ⟨rfl, hc5⟩)
          refine ⟨⟨3 + 1, by omega, by go_num, fun j hj => ?_, hb.trans (hc5.mono hb.size)⟩, ?_⟩
          · rcases (show j < 3 ∨ j = 3 by omega) with h | rfl
            · exact hne j h
            · exact hM
          · simp [intOf]
      · have HV : Hid (gueL M xs ys c = []) := HN.out (fun h => hne M.toNat (by omega) (by omega))
        have hbw := hb2.trans (hb.mono hs2)
        have ho := own_none wr (B := w.heap.size) hbw.size
        have hb3 := hbw.alloc hbw.size (.cells #[] 3)
        clear d0 d1 d2 d3
        go_wp2
        go_ret
        exact ⟨⟨_, rfl, by rw [HV.out]; exact ho⟩, hb3⟩
end Go.Proofs.Ytkakiollhhmmaaa
