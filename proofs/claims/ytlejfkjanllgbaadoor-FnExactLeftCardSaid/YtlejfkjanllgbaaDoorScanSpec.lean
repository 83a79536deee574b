/-
  spec.ScanAt.
-/
import Derived.Test.YtlejfkjanllgbaaDoorScanOf
import Derived.Test.YtlejfkjanllgbaaDoorInKit
namespace Go.Proofs.YtlejfkjanllgbaaDoor
open Go.RowKit
set_option linter.unusedVariables false
set_option maxRecDepth 20000

set_option maxHeartbeats 1600000 in
theorem specScanAt_4 (k : Nat) (hk : k < 16) (w : World) : Calls Tryd.prog 61 #[.int .i64 4, .int .i64 (k : Int)] w fun e w' => e = .returned (.int .i64 (scF 4 k : Int)) ∧ w' = w := by
  have hs : SideOk 4 := by simp [SideOk]
  obtain ⟨f1, f2, f3, f4⟩ := scan_facts hs
  obtain ⟨g1, g2⟩ := seen_facts hs
  have F2 : Hid (preF 4 7 = 16) := f2
  have G1 : Hid (∀ d, d < 7 → seenF 4 d 0 = preF 4 d ∧ seenF 4 d 4 = preF 4 (d + 1)) := g1
  have G2 : Hid (∀ d, d < 7 → ∀ i, i < 4 → lookF 4 d i < 4 ∧ seenF 4 d i ≤ 16 ∧
      ((lookF 4 d i ≤ d ∧ d - lookF 4 d i ≤ 4 - 1) → seenF 4 d (i + 1) = seenF 4 d i + 1 ∧ seenF 4 d i < 16 ∧ scF 4 (seenF 4 d i) = 4 * lookF 4 d i + d - lookF 4 d i) ∧
      (¬ (lookF 4 d i ≤ d ∧ d - lookF 4 d i ≤ 4 - 1) → seenF 4 d (i + 1) = seenF 4 d i)) := g2
  have k2 : (k : Int) < 16 := by omega
  have k0 : (0 : Int) ≤ (k : Int) := by omega
  clear f2 f3 f4 g1 g2 hk hs
  go_enter Tryd.func61, Tryd.ntmps61
  go_wp2
  go_loopw [5, 6] (fun n i wr => ∃ d : Nat, d ≤ 7 ∧ n = .int .i64 (preF 4 d : Int) ∧ i = .int .i64 (d : Int) ∧ preF 4 d ≤ k ∧ Hid (wr = w)) (fun _ i _ => 7 - (intOf i).toNat)
  case atStart => exact ⟨0, by omega, by rw [f1]; rfl, rfl, by omega, (rfl : w = w)⟩
  case round =>
    obtain ⟨d, hd, rfl, rfl, hp, HW⟩ := hrel
    have d0 : (0 : Int) ≤ (d : Int) := by omega
    by_cases hlt : d < 7
    · obtain ⟨h1, h2⟩ := G1.out d hlt
      have H2 : Hid (seenF 4 d 4 = preF 4 (d + 1)) := h2
      have GI : Hid (∀ i, i < 4 → lookF 4 d i < 4 ∧ seenF 4 d i ≤ 16 ∧
          ((lookF 4 d i ≤ d ∧ d - lookF 4 d i ≤ 4 - 1) → seenF 4 d (i + 1) = seenF 4 d i + 1 ∧ seenF 4 d i < 16 ∧ scF 4 (seenF 4 d i) = 4 * lookF 4 d i + d - lookF 4 d i) ∧
          (¬ (lookF 4 d i ≤ d ∧ d - lookF 4 d i ≤ 4 - 1) → seenF 4 d (i + 1) = seenF 4 d i)) := G2.out d hlt
      rw [← h1] at hp ⊢
      have d1 : (d : Int) ≤ 6 := by omega
      clear h1 h2 f1
      go_wp2
      generalize wr = wo at *
      go_loopw [5, 7] (fun n i wr => ∃ j : Nat, j ≤ 4 ∧ n = .int .i64 (seenF 4 d j : Int) ∧ i = .int .i64 (j : Int) ∧ seenF 4 d j ≤ k ∧ Hid (wr = w)) (fun _ i _ => 4 - (intOf i).toNat)
      case atStart => exact ⟨0, by omega, rfl, rfl, hp, HW⟩
      case round =>
        obtain ⟨j, hj, rfl, rfl, hq, HV⟩ := hrel
        have j0 : (0 : Int) ≤ (j : Int) := by omega
        by_cases hjl : j < 4
        · obtain ⟨r1, r2, r3, r4⟩ := GI.out j hjl
          obtain ⟨n, hn⟩ : ∃ n, seenF 4 d j = n := ⟨_, rfl⟩
          obtain ⟨r, hr⟩ : ∃ r, lookF 4 d j = r := ⟨_, rfl⟩
          rw [hn, hr] at r3
          rw [hn, hr] at r4
          rw [hn] at r2 hq ⊢
          rw [hr] at r1
          have j1 : (j : Int) < 4 := by omega
          have n0 : (0 : Int) ≤ (n : Int) := by omega
          have n1 : (n : Int) ≤ 16 := by omega
          have rr : (0 : Int) ≤ (r : Int) ∧ (r : Int) < 4 := by omega
          obtain ⟨rr0, rr1⟩ := rr
          have HN : Hid (n ≤ k) := hq
          have CI := in_any ((d : Int) - (r : Int)) 0 (4 - 1) wr
          have RO : Hid (d % 2 = 0 ∧ (r : Int) = 4 - 1 - (j : Int) ∨ ¬ d % 2 = 0 ∧ r = j) := by
            unfold lookF at hr
            by_cases hev : d % 2 = 0
            · rw [if_pos hev] at hr; exact .inl ⟨hev, by omega⟩
            · rw [if_neg hev] at hr; exact .inr ⟨hev, hr.symm⟩
          by_cases hin : r ≤ d ∧ d - r ≤ 4 - 1
          · obtain ⟨x1, x2, x3⟩ := r3 hin
            have e1 : (decide ((0 : Int) ≤ (d : Int) - (r : Int)) && decide ((d : Int) - (r : Int) ≤ 4 - 1)) = true := by simp; omega
            rw [e1] at CI
            have HC : Hid (Calls Tryd.prog 47 #[.int .i64 ((d : Int) - (r : Int)), .int .i64 0, .int .i64 3] wr (fun e w' => e = .returned (.bool true) ∧ w' = wr)) := CI
            have X3 : Hid (scF 4 n = 4 * r + d - r) := x3
            have X1 : Hid (seenF 4 d (j + 1) = n + 1) := x1
            have hrd : (r : Int) ≤ (d : Int) := by omega
            clear CI e1 r3 r4 x1 x3 hr hn hq r2
            by_cases hnk : n = k
            · subst hnk
              rcases RO.out with ⟨hev, ho⟩ | ⟨hev, rfl⟩
              · have hev' : (d : Int) % 2 = 0 := by omega
                have hrow : 3 - (j : Int) = (r : Int) := by omega
                clear hev ho RO
                go_wp2_with (go_at_call 47; refine HC.out.mono ?_; rintro e w1 ⟨rfl, hw⟩; subst w1)
                go_ret
                have e5 : (4 : Int) * (r : Int) + (d : Int) - (r : Int) = (scF 4 n : Int) := by have := X3.out; omega
                exact ⟨by show Ending.returned (.int .i64 ((4 : Int) * (r : Int) + (d : Int) - (r : Int))) = _; rw [e5], HV.out⟩
              · have hev' : ¬ (d : Int) % 2 = 0 := by omega
                clear hev RO
                go_wp2_with (go_at_call 47; refine HC.out.mono ?_; rintro e w1 ⟨rfl, hw⟩; subst w1)
                go_ret
                have e5 : (4 : Int) * (r : Int) + (d : Int) - (r : Int) = (scF 4 n : Int) := by have := X3.out; omega
                exact ⟨by show Ending.returned (.int .i64 ((4 : Int) * (r : Int) + (d : Int) - (r : Int))) = _; rw [e5], HV.out⟩
            · have hnk' : ¬ (n : Int) = (k : Int) := by omega
              rcases RO.out with ⟨hev, ho⟩ | ⟨hev, rfl⟩
              · have hev' : (d : Int) % 2 = 0 := by omega
                have hrow : 3 - (j : Int) = (r : Int) := by omega
                clear hev ho RO
                go_wp2_with (go_at_call 47; refine HC.out.mono ?_; rintro e w1 ⟨rfl, hw⟩; subst w1)
                go_roundw
                case rel => exact ⟨j + 1, by omega, by rw [X1.out]; go_num, by go_num, by rw [X1.out]; have := HN.out; omega, HV⟩
                case measure => simp [intOf]; omega
              · have hev' : ¬ (d : Int) % 2 = 0 := by omega
                clear hev RO
                go_wp2_with (go_at_call 47; refine HC.out.mono ?_; rintro e w1 ⟨rfl, hw⟩; subst w1)
                go_roundw
                case rel => exact ⟨r + 1, by omega, by rw [X1.out]; go_num, by go_num, by rw [X1.out]; have := HN.out; omega, HV⟩
                case measure => simp [intOf]; omega
          · have x1 := r4 hin
            have e1 : (decide ((0 : Int) ≤ (d : Int) - (r : Int)) && decide ((d : Int) - (r : Int) ≤ 4 - 1)) = false := by simp; omega
            rw [e1] at CI
            have HC : Hid (Calls Tryd.prog 47 #[.int .i64 ((d : Int) - (r : Int)), .int .i64 0, .int .i64 3] wr (fun e w' => e = .returned (.bool false) ∧ w' = wr)) := CI
            have X1 : Hid (seenF 4 d (j + 1) = n) := x1
            clear CI e1 r3 r4 x1 hr hn hq r2 hin
            rcases RO.out with ⟨hev, ho⟩ | ⟨hev, rfl⟩
            · have hev' : (d : Int) % 2 = 0 := by omega
              have hrow : 3 - (j : Int) = (r : Int) := by omega
              clear hev ho RO
              go_wp2_with (go_at_call 47; refine HC.out.mono ?_; rintro e w1 ⟨rfl, hw⟩; subst w1)
              go_roundw
              case rel => exact ⟨j + 1, by omega, by rw [X1.out], by go_num, by rw [X1.out]; exact HN.out, HV⟩
              case measure => simp [intOf]; omega
            · have hev' : ¬ (d : Int) % 2 = 0 := by omega
              clear hev RO
              go_wp2_with (go_at_call 47; refine HC.out.mono ?_; rintro e w1 ⟨rfl, hw⟩; subst w1)
              go_roundw
              case rel => exact ⟨r + 1, by omega, by rw [X1.out], by go_num, by rw [X1.out]; exact HN.out, HV⟩
              case measure => simp [intOf]; omega
        · obtain rfl : j = 4 := by omega
          rw [H2.out] at hq ⊢
          go_wp2
          go_roundw
          case rel => exact ⟨d + 1, by omega, rfl, by go_num, hq, HV⟩
          case measure => simp [intOf]; omega
    · exfalso
      obtain rfl : d = 7 := by omega
      rw [F2.out] at hp
      omega

set_option maxHeartbeats 1600000 in
theorem specScanAt_8 (k : Nat) (hk : k < 64) (w : World) : Calls Tryd.prog 61 #[.int .i64 8, .int .i64 (k : Int)] w fun e w' => e = .returned (.int .i64 (scF 8 k : Int)) ∧ w' = w := by
  have hs : SideOk 8 := by simp [SideOk]
  obtain ⟨f1, f2, f3, f4⟩ := scan_facts hs
  obtain ⟨g1, g2⟩ := seen_facts hs
  have F2 : Hid (preF 8 15 = 64) := f2
  have G1 : Hid (∀ d, d < 15 → seenF 8 d 0 = preF 8 d ∧ seenF 8 d 8 = preF 8 (d + 1)) := g1
  have G2 : Hid (∀ d, d < 15 → ∀ i, i < 8 → lookF 8 d i < 8 ∧ seenF 8 d i ≤ 64 ∧
      ((lookF 8 d i ≤ d ∧ d - lookF 8 d i ≤ 8 - 1) → seenF 8 d (i + 1) = seenF 8 d i + 1 ∧ seenF 8 d i < 64 ∧ scF 8 (seenF 8 d i) = 8 * lookF 8 d i + d - lookF 8 d i) ∧
      (¬ (lookF 8 d i ≤ d ∧ d - lookF 8 d i ≤ 8 - 1) → seenF 8 d (i + 1) = seenF 8 d i)) := g2
  have k2 : (k : Int) < 64 := by omega
  have k0 : (0 : Int) ≤ (k : Int) := by omega
  clear f2 f3 f4 g1 g2 hk hs
  go_enter Tryd.func61, Tryd.ntmps61
  go_wp2
  go_loopw [5, 6] (fun n i wr => ∃ d : Nat, d ≤ 15 ∧ n = .int .i64 (preF 8 d : Int) ∧ i = .int .i64 (d : Int) ∧ preF 8 d ≤ k ∧ Hid (wr = w)) (fun _ i _ => 15 - (intOf i).toNat)
  case atStart => exact ⟨0, by omega, by rw [f1]; rfl, rfl, by omega, (rfl : w = w)⟩
  case round =>
    obtain ⟨d, hd, rfl, rfl, hp, HW⟩ := hrel
    have d0 : (0 : Int) ≤ (d : Int) := by omega
    by_cases hlt : d < 15
    · obtain ⟨h1, h2⟩ := G1.out d hlt
      have H2 : Hid (seenF 8 d 8 = preF 8 (d + 1)) := h2
      have GI : Hid (∀ i, i < 8 → lookF 8 d i < 8 ∧ seenF 8 d i ≤ 64 ∧
          ((lookF 8 d i ≤ d ∧ d - lookF 8 d i ≤ 8 - 1) → seenF 8 d (i + 1) = seenF 8 d i + 1 ∧ seenF 8 d i < 64 ∧ scF 8 (seenF 8 d i) = 8 * lookF 8 d i + d - lookF 8 d i) ∧
          (¬ (lookF 8 d i ≤ d ∧ d - lookF 8 d i ≤ 8 - 1) → seenF 8 d (i + 1) = seenF 8 d i)) := G2.out d hlt
      rw [← h1] at hp ⊢
      have d1 : (d : Int) ≤ 14 := by omega
      clear h1 h2 f1
      go_wp2
      generalize wr = wo at *
      go_loopw [5, 7] (fun n i wr => ∃ j : Nat, j ≤ 8 ∧ n = .int .i64 (seenF 8 d j : Int) ∧ i = .int .i64 (j : Int) ∧ seenF 8 d j ≤ k ∧ Hid (wr = w)) (fun _ i _ => 8 - (intOf i).toNat)
      case atStart => exact ⟨0, by omega, rfl, rfl, hp, HW⟩
      case round =>
        obtain ⟨j, hj, rfl, rfl, hq, HV⟩ := hrel
        have j0 : (0 : Int) ≤ (j : Int) := by omega
        by_cases hjl : j < 8
        · obtain ⟨r1, r2, r3, r4⟩ := GI.out j hjl
          obtain ⟨n, hn⟩ : ∃ n, seenF 8 d j = n := ⟨_, rfl⟩
          obtain ⟨r, hr⟩ : ∃ r, lookF 8 d j = r := ⟨_, rfl⟩
          rw [hn, hr] at r3
          rw [hn, hr] at r4
          rw [hn] at r2 hq ⊢
          rw [hr] at r1
          have j1 : (j : Int) < 8 := by omega
          have n0 : (0 : Int) ≤ (n : Int) := by omega
          have n1 : (n : Int) ≤ 64 := by omega
          have rr : (0 : Int) ≤ (r : Int) ∧ (r : Int) < 8 := by omega
          obtain ⟨rr0, rr1⟩ := rr
          have HN : Hid (n ≤ k) := hq
          have CI := in_any ((d : Int) - (r : Int)) 0 (8 - 1) wr
          have RO : Hid (d % 2 = 0 ∧ (r : Int) = 8 - 1 - (j : Int) ∨ ¬ d % 2 = 0 ∧ r = j) := by
            unfold lookF at hr
            by_cases hev : d % 2 = 0
            · rw [if_pos hev] at hr; exact .inl ⟨hev, by omega⟩
            · rw [if_neg hev] at hr; exact .inr ⟨hev, hr.symm⟩
          by_cases hin : r ≤ d ∧ d - r ≤ 8 - 1
          · obtain ⟨x1, x2, x3⟩ := r3 hin
            have e1 : (decide ((0 : Int) ≤ (d : Int) - (r : Int)) && decide ((d : Int) - (r : Int) ≤ 8 - 1)) = true := by simp; omega
            rw [e1] at CI
            have HC : Hid (Calls Tryd.prog 47 #[.int .i64 ((d : Int) - (r : Int)), .int .i64 0, .int .i64 7] wr (fun e w' => e = .returned (.bool true) ∧ w' = wr)) := CI
            have X3 : Hid (scF 8 n = 8 * r + d - r) := x3
            have X1 : Hid (seenF 8 d (j + 1) = n + 1) := x1
            have hrd : (r : Int) ≤ (d : Int) := by omega
            clear CI e1 r3 r4 x1 x3 hr hn hq r2
            by_cases hnk : n = k
            · subst hnk
              rcases RO.out with ⟨hev, ho⟩ | ⟨hev, rfl⟩
              · have hev' : (d : Int) % 2 = 0 := by omega
                have hrow : 7 - (j : Int) = (r : Int) := by omega
                clear hev ho RO
                go_wp2_with (go_at_call 47; refine HC.out.mono ?_; rintro e w1 ⟨rfl, hw⟩; subst w1)
                go_ret
                have e5 : (8 : Int) * (r : Int) + (d : Int) - (r : Int) = (scF 8 n : Int) := by have := X3.out; omega
                exact ⟨by show Ending.returned (.int .i64 ((8 : Int) * (r : Int) + (d : Int) - (r : Int))) = _; rw [e5], HV.out⟩
              · have hev' : ¬ (d : Int) % 2 = 0 := by omega
                clear hev RO
                go_wp2_with (go_at_call 47; refine HC.out.mono ?_; rintro e w1 ⟨rfl, hw⟩; subst w1)
                go_ret
                have e5 : (8 : Int) * (r : Int) + (d : Int) - (r : Int) = (scF 8 n : Int) := by have := X3.out; omega
                exact ⟨by show Ending.returned (.int .i64 ((8 : Int) * (r : Int) + (d : Int) - (r : Int))) = _; rw [e5], HV.out⟩
            · have hnk' : ¬ (n : Int) = (k : Int) := by omega
              rcases RO.out with ⟨hev, ho⟩ | ⟨hev, rfl⟩
              · have hev' : (d : Int) % 2 = 0 := by omega
                have hrow : 7 - (j : Int) = (r : Int) := by omega
                clear hev ho RO
                go_wp2_with (go_at_call 47; refine HC.out.mono ?_; rintro e w1 ⟨rfl, hw⟩; subst w1)
                go_roundw
                case rel => exact ⟨j + 1, by omega, by rw [X1.out]; go_num, by go_num, by rw [X1.out]; have := HN.out; omega, HV⟩
                case measure => simp [intOf]; omega
              · have hev' : ¬ (d : Int) % 2 = 0 := by omega
                clear hev RO
                go_wp2_with (go_at_call 47; refine HC.out.mono ?_; rintro e w1 ⟨rfl, hw⟩; subst w1)
                go_roundw
                case rel => exact ⟨r + 1, by omega, by rw [X1.out]; go_num, by go_num, by rw [X1.out]; have := HN.out; omega, HV⟩
                case measure => simp [intOf]; omega
          · have x1 := r4 hin
            have e1 : (decide ((0 : Int) ≤ (d : Int) - (r : Int)) && decide ((d : Int) - (r : Int) ≤ 8 - 1)) = false := by simp; omega
            rw [e1] at CI
            have HC : Hid (Calls Tryd.prog 47 #[.int .i64 ((d : Int) - (r : Int)), .int .i64 0, .int .i64 7] wr (fun e w' => e = .returned (.bool false) ∧ w' = wr)) := CI
            have X1 : Hid (seenF 8 d (j + 1) = n) := x1
            clear CI e1 r3 r4 x1 hr hn hq r2 hin
            rcases RO.out with ⟨hev, ho⟩ | ⟨hev, rfl⟩
            · have hev' : (d : Int) % 2 = 0 := by omega
              have hrow : 7 - (j : Int) = (r : Int) := by omega
              clear hev ho RO
              go_wp2_with (go_at_call 47; refine HC.out.mono ?_; rintro e w1 ⟨rfl, hw⟩; subst w1)
              go_roundw
              case rel => exact ⟨j + 1, by omega, by rw [X1.out], by go_num, by rw [X1.out]; exact HN.out, HV⟩
              case measure => simp [intOf]; omega
            · have hev' : ¬ (d : Int) % 2 = 0 := by omega
              clear hev RO
              go_wp2_with (go_at_call 47; refine HC.out.mono ?_; rintro e w1 ⟨rfl, hw⟩; subst w1)
              go_roundw
              case rel => exact ⟨r + 1, by omega, by rw [X1.out], by go_num, by rw [X1.out]; exact HN.out, HV⟩
              case measure => simp [intOf]; omega
        · obtain rfl : j = 8 := by omega
          rw [H2.out] at hq ⊢
          go_wp2
          go_roundw
          case rel => exact ⟨d + 1, by omega, rfl, by go_num, hq, HV⟩
          case measure => simp [intOf]; omega
    · exfalso
      obtain rfl : d = 15 := by omega
      rw [F2.out] at hp
      omega

theorem specScanAt (s k : Int) (w : World) : Calls Tryd.prog 61 #[.int .i64 s, .int .i64 k] w fun e w' => e = .returned (.int .i64 (atF s k)) ∧ w' = w := by
  by_cases h : (s = 4 ∨ s = 8) ∧ 0 ≤ k ∧ k < s * s
  · have ha : atF s k = (scF s.toNat k.toNat : Int) := if_pos h
    obtain ⟨h1, h2, h3⟩ := h
    rw [ha]
    rcases h1 with rfl | rfl
    · have := specScanAt_4 k.toNat (by omega) w
      rwa [show ((k.toNat : Nat) : Int) = k by omega] at this
    · have := specScanAt_8 k.toNat (by omega) w
      rwa [show ((k.toNat : Nat) : Int) = k by omega] at this
  · have ha : atF s k = -1 := if_neg h
    rw [ha]
    clear ha
    by_cases h4 : s = 4
    · subst h4
      have hk : k < 0 ∨ 16 ≤ k := by omega
      by_cases hn : k < 0
      · clear hk h
        go_enter Tryd.func61, Tryd.ntmps61
        go_wp2
        go_ret
        exact ⟨rfl, rfl⟩
      · have hk' : 16 ≤ k := by omega
        clear hk h
        go_enter Tryd.func61, Tryd.ntmps61
        go_wp2
        go_ret
        exact ⟨rfl, rfl⟩
    · by_cases h8 : s = 8
      · subst h8
        have hk : k < 0 ∨ 64 ≤ k := by omega
        by_cases hn : k < 0
        · clear hk h
          go_enter Tryd.func61, Tryd.ntmps61
          go_wp2
          go_ret
          exact ⟨rfl, rfl⟩
        · have hk' : 64 ≤ k := by omega
          clear hk h
          go_enter Tryd.func61, Tryd.ntmps61
          go_wp2
          go_ret
          exact ⟨rfl, rfl⟩
      · clear h
        have q4 : (s == 4) = false := by rw [beq_eq_false_iff_ne]; exact h4
        have q8 : (s == 8) = false := by rw [beq_eq_false_iff_ne]; exact h8
        go_enter Tryd.func61, Tryd.ntmps61
        go_wp2
        go_ret
        exact ⟨rfl, rfl⟩
end Go.Proofs.YtlejfkjanllgbaaDoor
