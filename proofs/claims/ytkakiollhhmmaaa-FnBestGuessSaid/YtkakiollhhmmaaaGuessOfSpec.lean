/-
  A guess of edges, the model's: the walk of spec.GuessOf.
-/
import Derived.Test.YtkakiollhhmmaaaGuessSpec
import Derived.Deep.AppendLies
namespace Go.Proofs.Ytkakiollhhmmaaa
open Go.RowKit
set_option linter.unusedVariables false
set_option maxRecDepth 20000

theorem gueL_step (m : Nat) (xs ys : List Int) (c : Int) (k : Nat) : listF (k + 1) (gueF m xs ys c) = listF k (gueF m xs ys c) ++ [gueF m xs ys c k] := by simp [listF, List.range_succ]

set_option maxHeartbeats 3200000 in
theorem specGuessOf (M : Int) (a1 a2 : Option Addr) (c1 c2 : Nat) (xs ys : List Int) (c : Int) (w : World) (h1 : Ints w a1 xs) (h2 : Ints w a2 ys) (m1 : xs.length ≤ maxLen) (m2 : ys.length ≤ maxLen) :
    Calls Try.prog 30 #[.int .i64 M, edgV a1 xs.length c1 a2 ys.length c2 c] w fun e w' => (∃ v, e = .returned v ∧ w'.ownsRow w.heap.size 3 1 v (gueL M xs ys c).length ((gueL M xs ys c).map (Value.int .i64))) ∧ Below w.heap.size w w' := by
  obtain ⟨i0, hi0, hz0, hz1, hz2⟩ := info_parts infoI
  have HE : Hid (∀ w', Below w.heap.size w w' → Calls Try.prog 22 #[edgV a1 xs.length c1 a2 ys.length c2 c] w' fun e w'' => e = .returned (.bool (edgesB xs ys c)) ∧ Below w'.heap.size w' w'') := fun w' hb => specEdgesOk a1 a2 c1 c2 xs ys c w' (h1.below hb (Nat.le_refl _)) (h2.below hb (Nat.le_refl _)) m1 m2
  have HQ : Hid (∀ w', Calls Try.prog 42 #[.int .i64 M, .int .i64 0, .int .i64 3] w' fun e w'' => e = .returned (.bool (decide (0 ≤ M) && decide (M ≤ 3))) ∧ w'' = w') := fun w' => in_any M 0 3 w'
  have HMd : Hid (edgesB xs ys c = true → ∀ w', Below w.heap.size w w' → Calls Try.prog 49 #[edgV a1 xs.length c1 a2 ys.length c2 c] w' fun e w'' => e = .returned (.int .i64 (midF xs ys)) ∧ Below w'.heap.size w' w'') := fun h w' hb => specMid a1 a2 c1 c2 xs ys c w' (h1.below hb (Nat.le_refl _)) (h2.below hb (Nat.le_refl _)) (edgesB_iff.1 h).1 (edgesB_iff.1 h).2.1
  have HF1 : Hid (edgesB xs ys c = true → ∀ k : Nat, ∀ w', Below w.heap.size w w' → Calls Try.prog 48 #[.slice a1 xs.length c1, .int .i64 ((k : Int) % 8)] w' fun e w'' => e = .returned (.int .i64 (fillF xs (k % 8))) ∧ w'' = w') := fun h k w' hb => by
    rw [show (k : Int) % 8 = ((k % 8 : Nat) : Int) by omega]
    exact filled_any a1 c1 xs (k % 8) w' (h1.below hb (Nat.le_refl _)) (edgeB_iff.1 (edgesB_iff.1 h).1).1 (by omega)
  have HF2 : Hid (edgesB xs ys c = true → ∀ k : Nat, k < 64 → ∀ w', Below w.heap.size w w' → Calls Try.prog 48 #[.slice a2 ys.length c2, .int .i64 ((k : Int) / 8)] w' fun e w'' => e = .returned (.int .i64 (fillF ys (k / 8))) ∧ w'' = w') := fun h k hk w' hb => by
    rw [show (k : Int) / 8 = ((k / 8 : Nat) : Int) by omega]
    exact filled_any a2 c2 ys (k / 8) w' (h2.below hb (Nat.le_refl _)) (edgeB_iff.1 (edgesB_iff.1 h).2.1).1 (by omega)
  have HI1 : Hid (edgesB xs ys c = true → (∀ i, i < 8 → 0 ≤ fillF xs i ∧ fillF xs i ≤ 255) ∧ (∀ i, i < 8 → 0 ≤ fillF ys i ∧ fillF ys i ≤ 255) ∧ (0 ≤ cornF c ∧ cornF c ≤ 255) ∧ (-1 ≤ c ∧ c ≤ 255)) := fun h => ⟨fun i hi => fillF_in (edgesB_iff.1 h).1 hi, fun i hi => fillF_in (edgesB_iff.1 h).2.1 hi, cornF_in (edgesB_iff.1 h).2.2, (edgesB_iff.1 h).2.2⟩
  have HB : Hid (edgesB xs ys c = false → gueL M xs ys c = []) := fun h => gueL_bad h
  have HN : Hid (¬ (0 ≤ M ∧ M ≤ 3) → gueL M xs ys c = []) := fun h => gueL_no h
  have HG : Hid (edgesB xs ys c = true → 0 ≤ M → M ≤ 3 → gueL M xs ys c = listF 64 (gueF M.toNat xs ys c)) := fun h p q => gueL_of h p q
  have HS : Hid (∀ m k : Nat, listF (k + 1) (gueF m xs ys c) = listF k (gueF m xs ys c) ++ [gueF m xs ys c k]) := fun m k => gueL_step m xs ys c k
  have HV0 : Hid (∀ k, gueF 0 xs ys c k = midF xs ys) := fun k => rfl
  have HV1 : Hid (∀ k, gueF 1 xs ys c k = fillF xs (k % 8)) := fun k => rfl
  have HV2 : Hid (∀ k, gueF 2 xs ys c k = fillF ys (k / 8)) := fun k => rfl
  have HV3 : Hid (∀ k, gueF 3 xs ys c k = brF (fillF ys (k / 8) + fillF xs (k % 8) - cornF c) 0 255) := fun k => rfl
  have HCn : Hid (cornF c = if c = -1 then 128 else c) := rfl
  clear h1 h2 m1 m2
  generalize xs.length = n1 at *
  generalize ys.length = n2 at *
  generalize edgesB xs ys c = E at *
  generalize gueL M xs ys c = Z at *
  generalize midF xs ys = mid at *
  go_enter Try.func30, Try.ntmps30
  go_wp2_with fail
  generalize hV : World.alloc w _ = V
  have B0 : Blk V w.heap.size #[.slice a1 n1 c1, .slice a2 n2 c2, .int .i64 c] 26 := by rw [← hV]; exact Blk.new w _ _
  have hs0 : V.heap.size = w.heap.size + 1 := by rw [← hV]; simp
  have hb0 : Below w.heap.size w V := by rw [← hV]; exact (Below.refl _ _).alloc (Nat.le_refl _) _
  clear hV
  have HBx : Hid (∀ w', Below V.heap.size V w' → w'.cell? ⟨w.heap.size, 0, none⟩ = some (.slice a1 n1 c1) ∧ w'.cell? ⟨w.heap.size, 1, none⟩ = some (.slice a2 n2 c2) ∧ w'.cell? ⟨w.heap.size, 2, none⟩ = some (.int .i64 c)) := fun w' h => (B0.below h B0.lt).three.1
  have o0 : (V.alloc (.cells #[] 3)).ownsRow V.heap.size 3 1 (.slice (some ⟨w.heap.size + 1, 0, none⟩) 0 0) 0 (([] : List Int).map (Value.int .i64)) := by
    rw [← hs0]
    exact World.ownsRow_lit V #[] 0 (Nat.le_refl _) (by unfold maxLen; omega) rfl
  have hbV : Below V.heap.size V (V.alloc (.cells #[] 3)) := (Below.refl _ _).alloc (Nat.le_refl _) _
  clear B0
  generalize V.alloc (.cells #[] 3) = X at *
  have hbX : Below w.heap.size w X := hb0.trans (hbV.mono hb0.size)
  refine (HE.out X hbX).mono ?_
  rintro e w1 ⟨rfl, hb⟩
  have hc1 : Below V.heap.size V w1 := hbV.trans (hb.mono hbV.size)
  have o1 := owned_below o0 hb
  have hb1 := hb0.trans (hc1.mono hb0.size)
  clear hb o0 hbV hbX
  cases E with
  | false =>
    obtain rfl : Z = [] := HB.out rfl
    go_wp2
    go_ret
    exact ⟨⟨_, rfl, own_mono o1 hb0.size⟩, hb1⟩
  | true =>
    obtain ⟨r1, r2, r3, r4⟩ := HI1.out (by trivial)
    have HR : Hid ((∀ i, i < 8 → 0 ≤ fillF xs i ∧ fillF xs i ≤ 255) ∧ (∀ i, i < 8 → 0 ≤ fillF ys i ∧ fillF ys i ≤ 255)) := ⟨r1, r2⟩
    by_cases hM : 0 ≤ M ∧ M ≤ 3
    · have hQ : (decide (0 ≤ M) && decide (M ≤ 3)) = true := by simp [hM.1, hM.2]
      have HZ : Hid (Z = listF 64 (gueF M.toNat xs ys c)) := HG.out (by trivial) hM.1 hM.2
      have HM2 : Hid (∀ w', Below w.heap.size w w' → Calls Try.prog 49 #[edgV a1 n1 c1 a2 n2 c2 c] w' fun e w'' => e = .returned (.int .i64 mid) ∧ Below w'.heap.size w' w'') := HMd.out (by trivial)
      have HF1x : Hid (∀ k : Nat, ∀ w', Below w.heap.size w w' → Calls Try.prog 48 #[.slice a1 n1 c1, .int .i64 ((k : Int) % 8)] w' fun e w'' => e = .returned (.int .i64 (fillF xs (k % 8))) ∧ w'' = w') := HF1.out (by trivial)
      have HF2x : Hid (∀ k : Nat, k < 64 → ∀ w', Below w.heap.size w w' → Calls Try.prog 48 #[.slice a2 n2 c2, .int .i64 ((k : Int) / 8)] w' fun e w'' => e = .returned (.int .i64 (fillF ys (k / 8))) ∧ w'' = w') := HF2.out (by trivial)
      rw [hQ] at HQ
      clear HE HMd HF1 HF2 HI1 HB HN HG hQ r1 r2
      obtain ⟨C, hC⟩ : ∃ C, C = cornF c := ⟨_, rfl⟩
      have HCc : Hid (cornF c = C) := hC.symm
      rw [← hC] at r3
      have hcc : (c < 0 ∧ C = 128) ∨ (¬ c < 0 ∧ C = c) := by
        rw [hC]; unfold cornF; split
        · left; omega
        · right; omega
      clear hC
      have hstep : ∀ (P : Prop), P → P := fun _ h => h
      clear hstep
      rcases (show M = 0 ∨ M = 1 ∨ M = 2 ∨ M = 3 by omega) with rfl | rfl | rfl | rfl
      · obtain ⟨z0, z1, z2⟩ := HBx.out w1 hc1
        rcases hcc with ⟨k1, k2⟩ | ⟨k1, k2⟩
        all_goals
          have k3 := k2.symm
          subst k3
          go_wp2_with (go_at_call 42; refine (HQ.out _).mono ?_; rintro e w5 ⟨rfl, hw⟩; subst w5)
          clear z0 z1 z2
          go_loopw [5, 7] (fun v i wr => ∃ k : Nat, k ≤ 64 ∧ i = .int .i64 (k : Int) ∧ wr.ownsRow V.heap.size 3 1 v k ((listF k (gueF 0 xs ys c)).map (Value.int .i64)) ∧ Below V.heap.size V wr) (fun _ i _ => 64 - (intOf i).toNat)
          case atStart => exact ⟨0, by omega, rfl, o1, hc1⟩
          case round =>
            obtain ⟨k, hk, rfl, hown, hbk⟩ := hrel
            clear o1 hc1
            by_cases hlt : k < 64
            · obtain ⟨z0, z1, z2⟩ := HBx.out wr hbk
              have hbw := hb0.trans (hbk.mono hb0.size)
              have hbs := hbk.size
              have l0 : (0 : Int) ≤ (k : Int) := by omega
              have l1 : (k : Int) < 64 := by omega
              have CA : Hid (Calls _ _ _ _ _) := HF1x.out k wr hbw
              have CB : Hid (Calls _ _ _ _ _) := HF2x.out k hlt wr hbw
              obtain ⟨b1, b2⟩ := HR.out.1 (k % 8) (by omega)
              obtain ⟨b3, b4⟩ := HR.out.2 (k / 8) (by omega)
              have HL : Hid (listF (k + 1) (gueF 0 xs ys c) = listF k (gueF 0 xs ys c) ++ [mid]) := by show _ = _; rw [HS.out 0 k, HV0.out k]
              generalize listF k (gueF 0 xs ys c) = LK at *
              generalize fillF xs (k % 8) = pa at *
              generalize fillF ys (k / 8) = pb at *
              go_wp2_with (first
                | (go_at_call_of 48 (Value.slice a1 n1 c1); refine (CA.out).mono ?_; rintro e w5 ⟨rfl, hw⟩; subst w5) | (go_at_call_of 48 (Value.slice a2 n2 c2); refine (CB.out).mono ?_; rintro e w5 ⟨rfl, hw⟩; subst w5)
                | (go_at_call 49; refine (HM2.out _ hbw).mono ?_; rintro e w4 ⟨rfl, hc4⟩; have hown4 := owned_below hown hc4; have hs4 := hc4.size)
                | (at_builtin; refine wpList_append_lies _ (by rfl) _ _ 24 (by rfl) V.heap.size 3 i0 (.int .i64 0) 1 8 Try.underlying24 hi0 hz0 hz1 hz2 rfl (by omega) u5 k _ (by rfl) ((hown4).alloc _) ⟨w4.heap.size, 0, none⟩ 1 1 [.int .i64 mid] (by rfl) (by rfl) (World.news_of_block (cs := #[.int .i64 mid]) (t := 3) (fr := (0, 0)) (heap_alloc_new w4 _)) (by simp [Value.oneCell']) (by omega) (by unfold maxLen; omega) (by omega) (by simp; omega) (w4.heap.size + 1) (by simp) ?_; intro gg cp w6 hown2 hgrow hat hlt2))
              have hb5 := hbk.trans (hc4.mono hbk.size)
              have hb6 := (hb5.alloc hb5.size (.cells #[.int .i64 mid] 3)).grown hgrow (by simp; have := hb5.size; omega) (fun j hj => (hown4.lt j hj).1)
              have hown3 : w6.ownsRow V.heap.size 3 1 (.slice (some ⟨gg, 0, none⟩) (k + 1) cp) (k + 1) ((listF (k + 1) (gueF 0 xs ys c)).map (Value.int .i64)) := by
                rw [HL.out, List.map_append]; exact hown2
              refine ⟨⟨k + 1, by omega, by go_num, hown3, hb6⟩, ?_⟩
              simp [intOf]; omega
            · obtain rfl : k = 64 := by omega
              have HZl : Hid (Z = listF 64 (gueF 0 xs ys c)) := HZ.out
              have hlz : Z.length = 64 := by rw [HZl.out, listF_length]
              have hfin : wr.ownsRow w.heap.size 3 1 u5 Z.length (Z.map (Value.int .i64)) := by rw [hlz, HZl.out]; exact own_mono hown hb0.size
              have HO : Hid (wr.ownsRow w.heap.size 3 1 u5 Z.length (Z.map (Value.int .i64))) := hfin
              have hbw := hb0.trans (hbk.mono hb0.size)
              clear hfin hlz hown
              go_wp2
              go_ret
              exact ⟨⟨_, rfl, HO.out⟩, hbw⟩
      · obtain ⟨z0, z1, z2⟩ := HBx.out w1 hc1
        rcases hcc with ⟨k1, k2⟩ | ⟨k1, k2⟩
        all_goals
          have k3 := k2.symm
          subst k3
          go_wp2_with (go_at_call 42; refine (HQ.out _).mono ?_; rintro e w5 ⟨rfl, hw⟩; subst w5)
          clear z0 z1 z2
          go_loopw [5, 7] (fun v i wr => ∃ k : Nat, k ≤ 64 ∧ i = .int .i64 (k : Int) ∧ wr.ownsRow V.heap.size 3 1 v k ((listF k (gueF 1 xs ys c)).map (Value.int .i64)) ∧ Below V.heap.size V wr) (fun _ i _ => 64 - (intOf i).toNat)
          case atStart => exact ⟨0, by omega, rfl, o1, hc1⟩
          case round =>
            obtain ⟨k, hk, rfl, hown, hbk⟩ := hrel
            clear o1 hc1
            by_cases hlt : k < 64
            · obtain ⟨z0, z1, z2⟩ := HBx.out wr hbk
              have hbw := hb0.trans (hbk.mono hb0.size)
              have hbs := hbk.size
              have l0 : (0 : Int) ≤ (k : Int) := by omega
              have l1 : (k : Int) < 64 := by omega
              have CA : Hid (Calls _ _ _ _ _) := HF1x.out k wr hbw
              have CB : Hid (Calls _ _ _ _ _) := HF2x.out k hlt wr hbw
              obtain ⟨b1, b2⟩ := HR.out.1 (k % 8) (by omega)
              obtain ⟨b3, b4⟩ := HR.out.2 (k / 8) (by omega)
              have HL : Hid (listF (k + 1) (gueF 1 xs ys c) = listF k (gueF 1 xs ys c) ++ [fillF xs (k % 8)]) := by show _ = _; rw [HS.out 1 k, HV1.out k]
              generalize listF k (gueF 1 xs ys c) = LK at *
              generalize fillF xs (k % 8) = pa at *
              generalize fillF ys (k / 8) = pb at *
              go_wp2_with (first
                | (go_at_call_of 48 (Value.slice a1 n1 c1); refine (CA.out).mono ?_; rintro e w5 ⟨rfl, hw⟩; subst w5) | (go_at_call_of 48 (Value.slice a2 n2 c2); refine (CB.out).mono ?_; rintro e w5 ⟨rfl, hw⟩; subst w5)
                | (at_builtin; refine wpList_append_lies _ (by rfl) _ _ 24 (by rfl) V.heap.size 3 i0 (.int .i64 0) 1 8 Try.underlying24 hi0 hz0 hz1 hz2 rfl (by omega) u5 k _ (by rfl) ((hown).alloc _) ⟨wr.heap.size, 0, none⟩ 1 1 [.int .i64 pa] (by rfl) (by rfl) (World.news_of_block (cs := #[.int .i64 pa]) (t := 3) (fr := (0, 0)) (heap_alloc_new wr _)) (by simp [Value.oneCell']) (by omega) (by unfold maxLen; omega) (by omega) (by simp; omega) (wr.heap.size + 1) (by simp) ?_; intro gg cp w6 hown2 hgrow hat hlt2))
              have hb6 := (hbk.alloc hbk.size (.cells #[.int .i64 pa] 3)).grown hgrow (by simp; omega) (fun j hj => (hown.lt j hj).1)
              have hown3 : w6.ownsRow V.heap.size 3 1 (.slice (some ⟨gg, 0, none⟩) (k + 1) cp) (k + 1) ((listF (k + 1) (gueF 1 xs ys c)).map (Value.int .i64)) := by
                rw [HL.out, List.map_append]; exact hown2
              refine ⟨⟨k + 1, by omega, by go_num, hown3, hb6⟩, ?_⟩
              simp [intOf]; omega
            · obtain rfl : k = 64 := by omega
              have HZl : Hid (Z = listF 64 (gueF 1 xs ys c)) := HZ.out
              have hlz : Z.length = 64 := by rw [HZl.out, listF_length]
              have hfin : wr.ownsRow w.heap.size 3 1 u5 Z.length (Z.map (Value.int .i64)) := by rw [hlz, HZl.out]; exact own_mono hown hb0.size
              have HO : Hid (wr.ownsRow w.heap.size 3 1 u5 Z.length (Z.map (Value.int .i64))) := hfin
              have hbw := hb0.trans (hbk.mono hb0.size)
              clear hfin hlz hown
              go_wp2
              go_ret
              exact ⟨⟨_, rfl, HO.out⟩, hbw⟩
      · obtain ⟨z0, z1, z2⟩ := HBx.out w1 hc1
        rcases hcc with ⟨k1, k2⟩ | ⟨k1, k2⟩
        all_goals
          have k3 := k2.symm
          subst k3
          go_wp2_with (go_at_call 42; refine (HQ.out _).mono ?_; rintro e w5 ⟨rfl, hw⟩; subst w5)
          clear z0 z1 z2
          go_loopw [5, 7] (fun v i wr => ∃ k : Nat, k ≤ 64 ∧ i = .int .i64 (k : Int) ∧ wr.ownsRow V.heap.size 3 1 v k ((listF k (gueF 2 xs ys c)).map (Value.int .i64)) ∧ Below V.heap.size V wr) (fun _ i _ => 64 - (intOf i).toNat)
          case atStart => exact ⟨0, by omega, rfl, o1, hc1⟩
          case round =>
            obtain ⟨k, hk, rfl, hown, hbk⟩ := hrel
            clear o1 hc1
            by_cases hlt : k < 64
            · obtain ⟨z0, z1, z2⟩ := HBx.out wr hbk
              have hbw := hb0.trans (hbk.mono hb0.size)
              have hbs := hbk.size
              have l0 : (0 : Int) ≤ (k : Int) := by omega
              have l1 : (k : Int) < 64 := by omega
              have CA : Hid (Calls _ _ _ _ _) := HF1x.out k wr hbw
              have CB : Hid (Calls _ _ _ _ _) := HF2x.out k hlt wr hbw
              obtain ⟨b1, b2⟩ := HR.out.1 (k % 8) (by omega)
              obtain ⟨b3, b4⟩ := HR.out.2 (k / 8) (by omega)
              have HL : Hid (listF (k + 1) (gueF 2 xs ys c) = listF k (gueF 2 xs ys c) ++ [fillF ys (k / 8)]) := by show _ = _; rw [HS.out 2 k, HV2.out k]
              generalize listF k (gueF 2 xs ys c) = LK at *
              generalize fillF xs (k % 8) = pa at *
              generalize fillF ys (k / 8) = pb at *
              go_wp2_with (first
                | (go_at_call_of 48 (Value.slice a1 n1 c1); refine (CA.out).mono ?_; rintro e w5 ⟨rfl, hw⟩; subst w5) | (go_at_call_of 48 (Value.slice a2 n2 c2); refine (CB.out).mono ?_; rintro e w5 ⟨rfl, hw⟩; subst w5)
                | (at_builtin; refine wpList_append_lies _ (by rfl) _ _ 24 (by rfl) V.heap.size 3 i0 (.int .i64 0) 1 8 Try.underlying24 hi0 hz0 hz1 hz2 rfl (by omega) u5 k _ (by rfl) ((hown).alloc _) ⟨wr.heap.size, 0, none⟩ 1 1 [.int .i64 pb] (by rfl) (by rfl) (World.news_of_block (cs := #[.int .i64 pb]) (t := 3) (fr := (0, 0)) (heap_alloc_new wr _)) (by simp [Value.oneCell']) (by omega) (by unfold maxLen; omega) (by omega) (by simp; omega) (wr.heap.size + 1) (by simp) ?_; intro gg cp w6 hown2 hgrow hat hlt2))
              have hb6 := (hbk.alloc hbk.size (.cells #[.int .i64 pb] 3)).grown hgrow (by simp; omega) (fun j hj => (hown.lt j hj).1)
              have hown3 : w6.ownsRow V.heap.size 3 1 (.slice (some ⟨gg, 0, none⟩) (k + 1) cp) (k + 1) ((listF (k + 1) (gueF 2 xs ys c)).map (Value.int .i64)) := by
                rw [HL.out, List.map_append]; exact hown2
              refine ⟨⟨k + 1, by omega, by go_num, hown3, hb6⟩, ?_⟩
              simp [intOf]; omega
            · obtain rfl : k = 64 := by omega
              have HZl : Hid (Z = listF 64 (gueF 2 xs ys c)) := HZ.out
              have hlz : Z.length = 64 := by rw [HZl.out, listF_length]
              have hfin : wr.ownsRow w.heap.size 3 1 u5 Z.length (Z.map (Value.int .i64)) := by rw [hlz, HZl.out]; exact own_mono hown hb0.size
              have HO : Hid (wr.ownsRow w.heap.size 3 1 u5 Z.length (Z.map (Value.int .i64))) := hfin
              have hbw := hb0.trans (hbk.mono hb0.size)
              clear hfin hlz hown
              go_wp2
              go_ret
              exact ⟨⟨_, rfl, HO.out⟩, hbw⟩
      · obtain ⟨z0, z1, z2⟩ := HBx.out w1 hc1
        rcases hcc with ⟨k1, k2⟩ | ⟨k1, k2⟩
        · have k3 := k2.symm
          subst k3
          go_wp2_with (go_at_call 42; refine (HQ.out _).mono ?_; rintro e w5 ⟨rfl, hw⟩; subst w5)
          clear z0 z1 z2
          go_loopw [5, 7] (fun v i wr => ∃ k : Nat, k ≤ 64 ∧ i = .int .i64 (k : Int) ∧ wr.ownsRow V.heap.size 3 1 v k ((listF k (gueF 3 xs ys c)).map (Value.int .i64)) ∧ Below V.heap.size V wr) (fun _ i _ => 64 - (intOf i).toNat)
          case atStart => exact ⟨0, by omega, rfl, o1, hc1⟩
          case round =>
            obtain ⟨k, hk, rfl, hown, hbk⟩ := hrel
            clear o1 hc1
            by_cases hlt : k < 64
            · obtain ⟨z0, z1, z2⟩ := HBx.out wr hbk
              have hbw := hb0.trans (hbk.mono hb0.size)
              have hbs := hbk.size
              have l0 : (0 : Int) ≤ (k : Int) := by omega
              have l1 : (k : Int) < 64 := by omega
              have CA : Hid (Calls _ _ _ _ _) := HF1x.out k wr hbw
              have CB : Hid (Calls _ _ _ _ _) := HF2x.out k hlt wr hbw
              obtain ⟨b1, b2⟩ := HR.out.1 (k % 8) (by omega)
              obtain ⟨b3, b4⟩ := HR.out.2 (k / 8) (by omega)
              have HL : Hid (listF (k + 1) (gueF 3 xs ys c) = listF k (gueF 3 xs ys c) ++ [brF (fillF ys (k / 8) + fillF xs (k % 8) - 128) 0 255]) := by show _ = _; rw [HS.out 3 k, HV3.out k, HCc.out]
              generalize listF k (gueF 3 xs ys c) = LK at *
              generalize fillF xs (k % 8) = pa at *
              generalize fillF ys (k / 8) = pb at *
              obtain ⟨pd, hpd⟩ : ∃ pd, pd = brF (pb + pa - 128) 0 255 := ⟨_, rfl⟩
              have CBr : Hid (∀ w', Calls Try.prog 50 #[.int .i64 (pb + pa - 128), .int .i64 0, .int .i64 255] w' fun e w'' => e = .returned (.int .i64 pd) ∧ w'' = w') := fun w' => by rw [hpd]; exact specBrought _ 0 255 w' (by omega)
              rw [← hpd] at HL
              clear hpd
              go_wp2_with (first
                | (go_at_call_of 48 (Value.slice a1 n1 c1); refine (CA.out).mono ?_; rintro e w5 ⟨rfl, hw⟩; subst w5) | (go_at_call_of 48 (Value.slice a2 n2 c2); refine (CB.out).mono ?_; rintro e w5 ⟨rfl, hw⟩; subst w5)
                | (go_at_call 50; refine (CBr.out _).mono ?_; rintro e w5 ⟨rfl, hw⟩; subst w5)
                | (at_builtin; refine wpList_append_lies _ (by rfl) _ _ 24 (by rfl) V.heap.size 3 i0 (.int .i64 0) 1 8 Try.underlying24 hi0 hz0 hz1 hz2 rfl (by omega) u5 k _ (by rfl) ((hown).alloc _) ⟨wr.heap.size, 0, none⟩ 1 1 [.int .i64 pd] (by rfl) (by rfl) (World.news_of_block (cs := #[.int .i64 pd]) (t := 3) (fr := (0, 0)) (heap_alloc_new wr _)) (by simp [Value.oneCell']) (by omega) (by unfold maxLen; omega) (by omega) (by simp; omega) (wr.heap.size + 1) (by simp) ?_; intro gg cp w6 hown2 hgrow hat hlt2))
              have hb6 := (hbk.alloc hbk.size (.cells #[.int .i64 pd] 3)).grown hgrow (by simp; omega) (fun j hj => (hown.lt j hj).1)
              have hown3 : w6.ownsRow V.heap.size 3 1 (.slice (some ⟨gg, 0, none⟩) (k + 1) cp) (k + 1) ((listF (k + 1) (gueF 3 xs ys c)).map (Value.int .i64)) := by
                rw [HL.out, List.map_append]; exact hown2
              refine ⟨⟨k + 1, by omega, by go_num, hown3, hb6⟩, ?_⟩
              simp [intOf]; omega
            · obtain rfl : k = 64 := by omega
              have HZl : Hid (Z = listF 64 (gueF 3 xs ys c)) := HZ.out
              have hlz : Z.length = 64 := by rw [HZl.out, listF_length]
              have hfin : wr.ownsRow w.heap.size 3 1 u5 Z.length (Z.map (Value.int .i64)) := by rw [hlz, HZl.out]; exact own_mono hown hb0.size
              have HO : Hid (wr.ownsRow w.heap.size 3 1 u5 Z.length (Z.map (Value.int .i64))) := hfin
              have hbw := hb0.trans (hbk.mono hb0.size)
              clear hfin hlz hown
              go_wp2
              go_ret
              exact ⟨⟨_, rfl, HO.out⟩, hbw⟩
        · have k3 := k2.symm
          subst k3
          go_wp2_with (go_at_call 42; refine (HQ.out _).mono ?_; rintro e w5 ⟨rfl, hw⟩; subst w5)
          clear z0 z1 z2
          go_loopw [5, 7] (fun v i wr => ∃ k : Nat, k ≤ 64 ∧ i = .int .i64 (k : Int) ∧ wr.ownsRow V.heap.size 3 1 v k ((listF k (gueF 3 xs ys c)).map (Value.int .i64)) ∧ Below V.heap.size V wr) (fun _ i _ => 64 - (intOf i).toNat)
          case atStart => exact ⟨0, by omega, rfl, o1, hc1⟩
          case round =>
            obtain ⟨k, hk, rfl, hown, hbk⟩ := hrel
            clear o1 hc1
            by_cases hlt : k < 64
            · obtain ⟨z0, z1, z2⟩ := HBx.out wr hbk
              have hbw := hb0.trans (hbk.mono hb0.size)
              have hbs := hbk.size
              have l0 : (0 : Int) ≤ (k : Int) := by omega
              have l1 : (k : Int) < 64 := by omega
              have CA : Hid (Calls _ _ _ _ _) := HF1x.out k wr hbw
              have CB : Hid (Calls _ _ _ _ _) := HF2x.out k hlt wr hbw
              obtain ⟨b1, b2⟩ := HR.out.1 (k % 8) (by omega)
              obtain ⟨b3, b4⟩ := HR.out.2 (k / 8) (by omega)
              have HL : Hid (listF (k + 1) (gueF 3 xs ys c) = listF k (gueF 3 xs ys c) ++ [brF (fillF ys (k / 8) + fillF xs (k % 8) - c) 0 255]) := by show _ = _; rw [HS.out 3 k, HV3.out k, HCc.out]
              generalize listF k (gueF 3 xs ys c) = LK at *
              generalize fillF xs (k % 8) = pa at *
              generalize fillF ys (k / 8) = pb at *
              obtain ⟨pd, hpd⟩ : ∃ pd, pd = brF (pb + pa - c) 0 255 := ⟨_, rfl⟩
              have CBr : Hid (∀ w', Calls Try.prog 50 #[.int .i64 (pb + pa - c), .int .i64 0, .int .i64 255] w' fun e w'' => e = .returned (.int .i64 pd) ∧ w'' = w') := fun w' => by rw [hpd]; exact specBrought _ 0 255 w' (by omega)
              rw [← hpd] at HL
              clear hpd
              go_wp2_with (first
                | (go_at_call_of 48 (Value.slice a1 n1 c1); refine (CA.out).mono ?_; rintro e w5 ⟨rfl, hw⟩; subst w5) | (go_at_call_of 48 (Value.slice a2 n2 c2); refine (CB.out).mono ?_; rintro e w5 ⟨rfl, hw⟩; subst w5)
                | (go_at_call 50; refine (CBr.out _).mono ?_; rintro e w5 ⟨rfl, hw⟩; subst w5)
                | (at_builtin; refine wpList_append_lies _ (by rfl) _ _ 24 (by rfl) V.heap.size 3 i0 (.int .i64 0) 1 8 Try.underlying24 hi0 hz0 hz1 hz2 rfl (by omega) u5 k _ (by rfl) ((hown).alloc _) ⟨wr.heap.size, 0, none⟩ 1 1 [.int .i64 pd] (by rfl) (by rfl) (World.news_of_block (cs := #[.int .i64 pd]) (t := 3) (fr := (0, 0)) (heap_alloc_new wr _)) (by simp [Value.oneCell']) (by omega) (by unfold maxLen; omega) (by omega) (by simp; omega) (wr.heap.size + 1) (by simp) ?_; intro gg cp w6 hown2 hgrow hat hlt2))
              have hb6 := (hbk.alloc hbk.size (.cells #[.int .i64 pd] 3)).grown hgrow (by simp; omega) (fun j hj => (hown.lt j hj).1)
              have hown3 : w6.ownsRow V.heap.size 3 1 (.slice (some ⟨gg, 0, none⟩) (k + 1) cp) (k + 1) ((listF (k + 1) (gueF 3 xs ys c)).map (Value.int .i64)) := by
                rw [HL.out, List.map_append]; exact hown2
              refine ⟨⟨k + 1, by omega, by go_num, hown3, hb6⟩, ?_⟩
              simp [intOf]; omega
            · obtain rfl : k = 64 := by omega
              have HZl : Hid (Z = listF 64 (gueF 3 xs ys c)) := HZ.out
              have hlz : Z.length = 64 := by rw [HZl.out, listF_length]
              have hfin : wr.ownsRow w.heap.size 3 1 u5 Z.length (Z.map (Value.int .i64)) := by rw [hlz, HZl.out]; exact own_mono hown hb0.size
              have HO : Hid (wr.ownsRow w.heap.size 3 1 u5 Z.length (Z.map (Value.int .i64))) := hfin
              have hbw := hb0.trans (hbk.mono hb0.size)
              clear hfin hlz hown
              go_wp2
              go_ret
              exact ⟨⟨_, rfl, HO.out⟩, hbw⟩
    · have hQ : (decide (0 ≤ M) && decide (M ≤ 3)) = false := by simp; omega
      obtain rfl : Z = [] := HN.out hM
      rw [hQ] at HQ
      go_wp2_with (go_at_call 42; refine (HQ.out _).mono ?_; rintro e w5 ⟨rfl, hw⟩; subst w5)
      go_ret
      exact ⟨⟨_, rfl, own_mono o1 hb0.size⟩, hb1⟩
end Go.Proofs.Ytkakiollhhmmaaa
