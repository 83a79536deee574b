/-
  A guess of edges, the model's: the walks of spec.l13Filled and spec.l13Mid.
-/
import Derived.Test.YtkakiollhhmmaaaEdgeOkKit
import Derived.Test.YtkakiollhhmmaaaDotKit
import Derived.Test.YtkakiollhhmmaaaOwnKit
namespace Go.Proofs.Ytkakiollhhmmaaa
open Go.RowKit
set_option linter.unusedVariables false
set_option maxRecDepth 20000

set_option maxHeartbeats 800000 in
theorem filled_any (a : Option Addr) (cap : Nat) (xs : List Int) (i : Nat) (w : World) (h : Ints w a xs) (hx : xs.length = 0 ∨ xs.length = 8) (hi : i < 8) :
    Calls Try.prog 48 #[.slice a xs.length cap, .int .i64 (i : Int)] w fun e w' => e = .returned (.int .i64 (fillF xs i)) ∧ w' = w := by
  rcases hx with h0 | h8
  · obtain rfl := List.eq_nil_of_length_eq_zero h0
    clear h h0
    go_enter Try.func48, Try.ntmps48
    go_wp2
    go_ret
    exact ⟨rfl, rfl⟩
  · rcases h with h0 | ⟨b, off, rfl, hg, hc⟩
    · rw [h0] at h8; simp at h8
    have d := hc i (by omega)
    have HV : Hid (fillF xs i = xs.getD i 0) := by show _ = _; unfold fillF; rw [if_neg (by omega)]
    rw [h8]
    clear hc h8
    have l0 : (0 : Int) ≤ (i : Int) := by omega
    have l1 : (i : Int) < 8 := by omega
    generalize xs.getD i 0 = x at *
    go_enter Try.func48, Try.ntmps48
    go_wp2
    go_ret
    exact ⟨by rw [HV.out]; rfl, rfl⟩

/-- The sum of the first k of both lists, and half of how many there are. -/
theorem mid_tdiv {s n : Int} (h0 : 0 ≤ s) (h1 : s ≤ 10000) (hn : n = 8 ∨ n = 16) : wrap64 (s.tdiv n) = s / n := by
  rw [Int.tdiv_eq_ediv_of_nonneg h0]
  rcases hn with rfl | rfl
  · exact IntWalk.wrap64_in _ ⟨by omega, by omega⟩
  · exact IntWalk.wrap64_in _ ⟨by omega, by omega⟩

set_option maxHeartbeats 1600000 in
theorem specMid (a1 a2 : Option Addr) (c1 c2 : Nat) (xs ys : List Int) (c : Int) (w : World) (h1 : Ints w a1 xs) (h2 : Ints w a2 ys) (hx : edgeB xs = true) (hy : edgeB ys = true) :
    Calls Try.prog 49 #[edgV a1 xs.length c1 a2 ys.length c2 c] w fun e w' => e = .returned (.int .i64 (midF xs ys)) ∧ Below w.heap.size w w' := by
  obtain ⟨x1, x2⟩ := edgeB_iff.1 hx
  obtain ⟨y1, y2⟩ := edgeB_iff.1 hy
  have HX : Hid (∀ w', Below w.heap.size w w' → Ints w' a1 xs ∧ Ints w' a2 ys) := fun w' hb => ⟨h1.below hb (Nat.le_refl _), h2.below hb (Nat.le_refl _)⟩
  have HKx : Hid (∀ k, k ≤ xs.length → 0 ≤ dotSum xs k ∧ dotSum xs k ≤ 255 * (k : Int)) := sumN_bd x2
  have HKy : Hid (∀ k, k ≤ ys.length → 0 ≤ dotSum ys k ∧ dotSum ys k ≤ 255 * (k : Int)) := sumN_bd y2
  have HSx : Hid (∀ k, k < xs.length → dotSum xs (k + 1) = dotSum xs k + xs.getD k 0) := sumN_succ xs
  have HSy : Hid (∀ k, k < ys.length → dotSum ys (k + 1) = dotSum ys k + ys.getD k 0) := sumN_succ ys
  have HDx : Hid (∀ i, i < xs.length → 0 ≤ xs.getD i 0 ∧ xs.getD i 0 ≤ 255) := dotsB_iff.1 x2
  have HDy : Hid (∀ i, i < ys.length → 0 ≤ ys.getD i 0 ∧ ys.getD i 0 ≤ 255) := dotsB_iff.1 y2
  obtain ⟨p0, p1⟩ := sumN_bd x2 xs.length (Nat.le_refl _)
  obtain ⟨q0, q1⟩ := sumN_bd y2 ys.length (Nat.le_refl _)
  have HM : Hid (midF xs ys = if xs.length + ys.length = 0 then 128 else (dotSum xs xs.length + dotSum ys ys.length + ((xs.length + ys.length : Nat) : Int) / 2) / ((xs.length + ys.length : Nat) : Int)) := rfl
  have H0x : Hid (dotSum xs 0 = 0) := rfl
  have H0y : Hid (dotSum ys 0 = 0) := rfl
  generalize midF xs ys = R at *
  clear h1 h2 hx hy x2 y2
  obtain ⟨n, hn⟩ : ∃ n, xs.length = n := ⟨_, rfl⟩
  obtain ⟨m, hm⟩ : ∃ m, ys.length = m := ⟨_, rfl⟩
  have HN : Hid (xs.length = n ∧ ys.length = m) := ⟨hn, hm⟩
  rw [hn] at x1 p0 p1 HKx HSx HDx HM
  rw [hm] at y1 q0 q1 HKy HSy HDy HM
  rw [hn, hm]
  clear hn hm
  have B0 := Blk.new w #[.slice a1 n c1, .slice a2 m c2, .int .i64 c] 26
  have hb0 := (Below.refl w.heap.size w).alloc (Nat.le_refl _) (.cells #[.slice a1 n c1, .slice a2 m c2, .int .i64 c] 26)
  have HB : Hid (∀ w', Below (World.alloc w (.cells #[.slice a1 n c1, .slice a2 m c2, .int .i64 c] 26)).heap.size (World.alloc w (.cells #[.slice a1 n c1, .slice a2 m c2, .int .i64 c] 26)) w' → w'.cell? ⟨w.heap.size, 0, none⟩ = some (.slice a1 n c1) ∧ w'.cell? ⟨w.heap.size, 1, none⟩ = some (.slice a2 m c2)) := fun w' h => by
    obtain ⟨⟨x0, x1, _⟩, _⟩ := (B0.below h B0.lt).three
    exact ⟨x0, x1⟩
  clear B0
  by_cases hz : n + m = 0
  · obtain rfl : n = 0 := by omega
    obtain rfl : m = 0 := by omega
    have HV : Hid (R = 128) := HM.out
    go_enter Try.func49, Try.ntmps49
    go_wp2
    go_ret
    exact ⟨by rw [HV.out]; rfl, hb0⟩
  · rcases x1 with rfl | rfl
    · rcases y1 with rfl | rfl
      · exact absurd rfl hz
      · clear hz
        have HV : Hid (R = (dotSum xs 0 + dotSum ys 8 + 4) / 8) := HM.out
        have p2 : dotSum xs 0 ≤ 2040 := by omega
        have q2 : dotSum ys 8 ≤ 2040 := by omega
        clear HM
        obtain ⟨S, hS⟩ : ∃ S, S = dotSum xs 0 := ⟨_, rfl⟩
        obtain ⟨T, hT⟩ : ∃ T, T = dotSum ys 8 := ⟨_, rfl⟩
        have HST : Hid (S = dotSum xs 0 ∧ T = dotSum ys 8) := ⟨hS, hT⟩
        rw [← hS] at p0 p2
        rw [← hT] at q0 q2
        clear hS hT p1 q1
        go_enter Try.func49, Try.ntmps49
        go_wp2_with fail
        generalize World.alloc w _ = V at *
        go_loopw [4, 5] (fun u i wr => ∃ k : Nat, k ≤ 0 ∧ i = .int .i64 (k : Int) ∧ u = .int .i64 (4 + dotSum xs k) ∧ Below V.heap.size V wr) (fun _ i _ => 0 - (intOf i).toNat)
        case atStart => exact ⟨0, Nat.zero_le _, rfl, by rw [H0x.out, Int.add_zero], Below.refl _ _⟩
        case round =>
          obtain ⟨k, hk, rfl, rfl, hb⟩ := hrel
          obtain ⟨z0, z1⟩ := HB.out wr hb
          obtain ⟨s0, s1⟩ := HKx.out k hk
          by_cases hlt : k < 0
          · exact absurd hlt (Nat.not_lt_zero k)
          · have hke : k = 0 := by omega
            have HE5 : Hid (dotSum xs k = dotSum xs 0) := by show _ = _; rw [hke]
            have hkn : ¬ (k : Int) < 0 := by omega
            clear hke hk hlt s0 s1
            have hE : dotSum xs k = dotSum xs 0 := HE5.out
            rw [hE]
            clear hE HE5
            rw [← HST.out.1]
            have hbW := hb
            clear hb
            generalize wr = wq at *
            go_wp2_with fail
            go_loopw [4, 6] (fun u i wr => ∃ k : Nat, k ≤ 8 ∧ i = .int .i64 (k : Int) ∧ u = .int .i64 (4 + S + dotSum ys k) ∧ Below V.heap.size V wr) (fun _ i _ => 8 - (intOf i).toNat)
            case atStart => exact ⟨0, Nat.zero_le _, rfl, by rw [H0y.out, Int.add_zero], hbW⟩
            case round =>
              obtain ⟨k, hk, rfl, rfl, hb⟩ := hrel
              obtain ⟨z0, z1⟩ := HB.out wr hb
              obtain ⟨s0, s1⟩ := HKy.out k hk
              by_cases hlt : k < 8
              · have hlt' : k < ys.length := by rw [HN.out.2]; exact hlt
                rcases (HX.out wr (hb0.trans (hb.mono hb0.size))).2 with h0 | ⟨b, off, rfl, hg, hc⟩
                · rw [h0] at hlt'; simp at hlt'
                have d1 := hc k hlt'
                obtain ⟨e0, e1⟩ := HDy.out k hlt
                have HS' : Hid (dotSum ys (k + 1) = dotSum ys k + ys.getD k 0) := HSy.out k hlt
                clear hc hlt'
                have l0 : (0 : Int) ≤ (k : Int) := by omega
                have l1 : (k : Int) < 8 := by omega
                generalize dotSum ys k = q at *
                generalize ys.getD k 0 = x at *
                go_wp2
                go_roundw
                case rel => exact ⟨k + 1, by omega, by go_num, by rw [HS'.out, Int.add_assoc], hb⟩
                case measure => simp [intOf]; omega
              · have hke : k = 8 := by omega
                have HE6 : Hid (dotSum ys k = dotSum ys 8) := by show _ = _; rw [hke]
                have hkn : ¬ (k : Int) < 8 := by omega
                clear hke hk hlt s0 s1
                have hE : dotSum ys k = dotSum ys 8 := HE6.out
                rw [hE]
                clear hE HE6
                rw [← HST.out.2]
                go_wp2
                go_ret
                exact ⟨by rw [HV.out, ← HST.out.1, ← HST.out.2]; simp; first | rfl | (rw [mid_tdiv (by omega) (by omega) (by omega)]; congr 1; omega) | (congr 1; omega), hb0.trans (hb.mono hb0.size)⟩
    · rcases y1 with rfl | rfl
      · clear hz
        have HV : Hid (R = (dotSum xs 8 + dotSum ys 0 + 4) / 8) := HM.out
        have p2 : dotSum xs 8 ≤ 2040 := by omega
        have q2 : dotSum ys 0 ≤ 2040 := by omega
        clear HM
        obtain ⟨S, hS⟩ : ∃ S, S = dotSum xs 8 := ⟨_, rfl⟩
        obtain ⟨T, hT⟩ : ∃ T, T = dotSum ys 0 := ⟨_, rfl⟩
        have HST : Hid (S = dotSum xs 8 ∧ T = dotSum ys 0) := ⟨hS, hT⟩
        rw [← hS] at p0 p2
        rw [← hT] at q0 q2
        clear hS hT p1 q1
        go_enter Try.func49, Try.ntmps49
        go_wp2_with fail
        generalize World.alloc w _ = V at *
        go_loopw [4, 5] (fun u i wr => ∃ k : Nat, k ≤ 8 ∧ i = .int .i64 (k : Int) ∧ u = .int .i64 (4 + dotSum xs k) ∧ Below V.heap.size V wr) (fun _ i _ => 8 - (intOf i).toNat)
        case atStart => exact ⟨0, Nat.zero_le _, rfl, by rw [H0x.out, Int.add_zero], Below.refl _ _⟩
        case round =>
          obtain ⟨k, hk, rfl, rfl, hb⟩ := hrel
          obtain ⟨z0, z1⟩ := HB.out wr hb
          obtain ⟨s0, s1⟩ := HKx.out k hk
          by_cases hlt : k < 8
          · have hlt' : k < xs.length := by rw [HN.out.1]; exact hlt
            rcases (HX.out wr (hb0.trans (hb.mono hb0.size))).1 with h0 | ⟨b, off, rfl, hg, hc⟩
            · rw [h0] at hlt'; simp at hlt'
            have d1 := hc k hlt'
            obtain ⟨e0, e1⟩ := HDx.out k hlt
            have HS' : Hid (dotSum xs (k + 1) = dotSum xs k + xs.getD k 0) := HSx.out k hlt
            clear hc hlt'
            have l0 : (0 : Int) ≤ (k : Int) := by omega
            have l1 : (k : Int) < 8 := by omega
            generalize dotSum xs k = q at *
            generalize xs.getD k 0 = x at *
            go_wp2
            go_roundw
            case rel => exact ⟨k + 1, by omega, by go_num, by rw [HS'.out, Int.add_assoc], hb⟩
            case measure => simp [intOf]; omega
          · have hke : k = 8 := by omega
            have HE5 : Hid (dotSum xs k = dotSum xs 8) := by show _ = _; rw [hke]
            have hkn : ¬ (k : Int) < 8 := by omega
            clear hke hk hlt s0 s1
            have hE : dotSum xs k = dotSum xs 8 := HE5.out
            rw [hE]
            clear hE HE5
            rw [← HST.out.1]
            have hbW := hb
            clear hb
            generalize wr = wq at *
            go_wp2_with fail
            go_loopw [4, 6] (fun u i wr => ∃ k : Nat, k ≤ 0 ∧ i = .int .i64 (k : Int) ∧ u = .int .i64 (4 + S + dotSum ys k) ∧ Below V.heap.size V wr) (fun _ i _ => 0 - (intOf i).toNat)
            case atStart => exact ⟨0, Nat.zero_le _, rfl, by rw [H0y.out, Int.add_zero], hbW⟩
            case round =>
              obtain ⟨k, hk, rfl, rfl, hb⟩ := hrel
              obtain ⟨z0, z1⟩ := HB.out wr hb
              obtain ⟨s0, s1⟩ := HKy.out k hk
              by_cases hlt : k < 0
              · exact absurd hlt (Nat.not_lt_zero k)
              · have hke : k = 0 := by omega
                have HE6 : Hid (dotSum ys k = dotSum ys 0) := by show _ = _; rw [hke]
                have hkn : ¬ (k : Int) < 0 := by omega
                clear hke hk hlt s0 s1
                have hE : dotSum ys k = dotSum ys 0 := HE6.out
                rw [hE]
                clear hE HE6
                rw [← HST.out.2]
                go_wp2
                go_ret
                exact ⟨by rw [HV.out, ← HST.out.1, ← HST.out.2]; simp; first | rfl | (rw [mid_tdiv (by omega) (by omega) (by omega)]; congr 1; omega) | (congr 1; omega), hb0.trans (hb.mono hb0.size)⟩
      · clear hz
        have HV : Hid (R = (dotSum xs 8 + dotSum ys 8 + 8) / 16) := HM.out
        have p2 : dotSum xs 8 ≤ 2040 := by omega
        have q2 : dotSum ys 8 ≤ 2040 := by omega
        clear HM
        obtain ⟨S, hS⟩ : ∃ S, S = dotSum xs 8 := ⟨_, rfl⟩
        obtain ⟨T, hT⟩ : ∃ T, T = dotSum ys 8 := ⟨_, rfl⟩
        have HST : Hid (S = dotSum xs 8 ∧ T = dotSum ys 8) := ⟨hS, hT⟩
        rw [← hS] at p0 p2
        rw [← hT] at q0 q2
        clear hS hT p1 q1
        go_enter Try.func49, Try.ntmps49
        go_wp2_with fail
        generalize World.alloc w _ = V at *
        go_loopw [4, 5] (fun u i wr => ∃ k : Nat, k ≤ 8 ∧ i = .int .i64 (k : Int) ∧ u = .int .i64 (8 + dotSum xs k) ∧ Below V.heap.size V wr) (fun _ i _ => 8 - (intOf i).toNat)
        case atStart => exact ⟨0, Nat.zero_le _, rfl, by rw [H0x.out, Int.add_zero], Below.refl _ _⟩
        case round =>
          obtain ⟨k, hk, rfl, rfl, hb⟩ := hrel
          obtain ⟨z0, z1⟩ := HB.out wr hb
          obtain ⟨s0, s1⟩ := HKx.out k hk
          by_cases hlt : k < 8
          · have hlt' : k < xs.length := by rw [HN.out.1]; exact hlt
            rcases (HX.out wr (hb0.trans (hb.mono hb0.size))).1 with h0 | ⟨b, off, rfl, hg, hc⟩
            · rw [h0] at hlt'; simp at hlt'
            have d1 := hc k hlt'
            obtain ⟨e0, e1⟩ := HDx.out k hlt
            have HS' : Hid (dotSum xs (k + 1) = dotSum xs k + xs.getD k 0) := HSx.out k hlt
            clear hc hlt'
            have l0 : (0 : Int) ≤ (k : Int) := by omega
            have l1 : (k : Int) < 8 := by omega
            generalize dotSum xs k = q at *
            generalize xs.getD k 0 = x at *
            go_wp2
            go_roundw
            case rel => exact ⟨k + 1, by omega, by go_num, by rw [HS'.out, Int.add_assoc], hb⟩
            case measure => simp [intOf]; omega
          · have hke : k = 8 := by omega
            have HE5 : Hid (dotSum xs k = dotSum xs 8) := by show _ = _; rw [hke]
            have hkn : ¬ (k : Int) < 8 := by omega
            clear hke hk hlt s0 s1
            have hE : dotSum xs k = dotSum xs 8 := HE5.out
            rw [hE]
            clear hE HE5
            rw [← HST.out.1]
            have hbW := hb
            clear hb
            generalize wr = wq at *
            go_wp2_with fail
            go_loopw [4, 6] (fun u i wr => ∃ k : Nat, k ≤ 8 ∧ i = .int .i64 (k : Int) ∧ u = .int .i64 (8 + S + dotSum ys k) ∧ Below V.heap.size V wr) (fun _ i _ => 8 - (intOf i).toNat)
            case atStart => exact ⟨0, Nat.zero_le _, rfl, by rw [H0y.out, Int.add_zero], hbW⟩
            case round =>
              obtain ⟨k, hk, rfl, rfl, hb⟩ := hrel
              obtain ⟨z0, z1⟩ := HB.out wr hb
              obtain ⟨s0, s1⟩ := HKy.out k hk
              by_cases hlt : k < 8
              · have hlt' : k < ys.length := by rw [HN.out.2]; exact hlt
                rcases (HX.out wr (hb0.trans (hb.mono hb0.size))).2 with h0 | ⟨b, off, rfl, hg, hc⟩
                · rw [h0] at hlt'; simp at hlt'
                have d1 := hc k hlt'
                obtain ⟨e0, e1⟩ := HDy.out k hlt
                have HS' : Hid (dotSum ys (k + 1) = dotSum ys k + ys.getD k 0) := HSy.out k hlt
                clear hc hlt'
                have l0 : (0 : Int) ≤ (k : Int) := by omega
                have l1 : (k : Int) < 8 := by omega
                generalize dotSum ys k = q at *
                generalize ys.getD k 0 = x at *
                go_wp2
                go_roundw
                case rel => exact ⟨k + 1, by omega, by go_num, by rw [HS'.out, Int.add_assoc], hb⟩
                case measure => simp [intOf]; omega
              · have hke : k = 8 := by omega
                have HE6 : Hid (dotSum ys k = dotSum ys 8) := by show _ = _; rw [hke]
                have hkn : ¬ (k : Int) < 8 := by omega
                clear hke hk hlt s0 s1
                have hE : dotSum ys k = dotSum ys 8 := HE6.out
                rw [hE]
                clear hE HE6
                rw [← HST.out.2]
                go_wp2
                go_ret
                exact ⟨by rw [HV.out, ← HST.out.1, ← HST.out.2]; simp; first | rfl | (rw [mid_tdiv (by omega) (by omega) (by omega)]; congr 1; omega) | (congr 1; omega), hb0.trans (hb.mono hb0.size)⟩
end Go.Proofs.Ytkakiollhhmmaaa
