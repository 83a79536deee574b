/-
  Dots and what is left together: the walks of impl.Joined and spec.Joined.
-/
import Derived.Test.YtlejfkjanllgbaaSqOkKit
import Derived.Test.YtlejfkjanllgbaaDotSqKit
import Derived.Test.YtlejfkjanllgbaaJoinMath
import Derived.Test.YtlejfkjanllgbaaBrKit
import Derived.Test.YtlejfkjanllgbaaStoreKit
import Derived.Deep.RegionHeld3
import Derived.Deep.RegionWith
import Derived.Deep.DrawnRows
import Derived.Deep.AppendLies
namespace Go.Proofs.Ytlejfkjanllgbaa
open Go.RowKit
set_option linter.unusedVariables false
set_option maxRecDepth 20000

set_option maxHeartbeats 1600000 in
theorem implJoined (a1 a2 : Option Addr) (c1 c2 : Nat) (gs xs : List Int) (w : World) (h1 : Ints w a1 gs) (h2 : Ints w a2 xs) (m1 : gs.length ≤ maxLen) (m2 : xs.length ≤ maxLen) :
    Calls Try.prog 9 #[.slice a1 gs.length c1, .slice a2 xs.length c2] w fun e w' => (∃ v, e = .returned v ∧ w'.ownsRow w.heap.size 3 1 v (joinL gs xs).length ((joinL gs xs).map (Value.int .i64))) ∧ Below w.heap.size w w' := by
  obtain ⟨i0, hi0, hz0, hz1, hz2⟩ := info_parts infoI
  have HI : Hid (∀ w', Below w.heap.size w w' → Ints w' a1 gs ∧ Ints w' a2 xs) := fun w' hb => ⟨h1.below hb (Nat.le_refl _), h2.below hb (Nat.le_refl _)⟩
  have C1 : Hid (Calls Try.prog 21 #[.slice a1 gs.length c1] w fun e w' => e = .returned (.bool (wantB gs)) ∧ Below w.heap.size w w') := dotSquareOk_any a1 c1 gs w h1 m1
  have C2 : Hid (∀ w', Below w.heap.size w w' → Calls Try.prog 22 #[.slice a2 xs.length c2, .int .i64 10000000] w' fun e w'' => e = .returned (.bool (sqB 10000000 xs)) ∧ Below w'.heap.size w' w'') := fun w' hb => numberSquareOk_any a2 c2 xs 10000000 w' (h2.below hb (Nat.le_refl _)) m2 (by decide) (by decide)
  have HJ : Hid (jnB gs xs = (wantB gs && sqB 10000000 xs)) := rfl
  have HW : Hid (wantB gs = true → gs.length = 64 ∧ ∀ i, i < 64 → 0 ≤ gs.getD i 0 ∧ gs.getD i 0 ≤ 255) := fun h => by
    obtain ⟨e1, e2⟩ := wantB_of h
    exact ⟨e1, fun i hi => dotsB_iff.1 e2 i (by omega)⟩
  have HQ : Hid (sqB 10000000 xs = true → xs.length = 64 ∧ ∀ i, i < 64 → -10000000 ≤ xs.getD i 0 ∧ xs.getD i 0 ≤ 10000000) := fun h => ⟨(sqB_iff.1 h).1, sqB_at h⟩
  have HZ0 : Hid (jnB gs xs = false → joinL gs xs = []) := fun h => joinL_no h
  have HZ1 : Hid (jnB gs xs = true → joinL gs xs = listF 64 (fun i => brF (gs.getD i 0 + xs.getD i 0) 0 255)) := fun h => joinL_yes h
  unfold maxLen at m1 m2
  clear h1 h2
  generalize joinL gs xs = Z at *
  generalize jnB gs xs = J at *
  generalize wantB gs = X at *
  generalize sqB 10000000 xs = Y at *
  go_enter Try.func9, Try.ntmps9
  go_wp2_with fail
  refine C1.out.mono ?_
  rintro e w1 ⟨rfl, hb1⟩
  rcases X with _ | _
  · obtain rfl : Z = [] := HZ0.out (by rw [HJ.out]; rfl)
    go_wp2
    go_ret
    exact ⟨⟨_, rfl, own_none w1 hb1.size⟩, hb1.alloc hb1.size _⟩
  go_wp2_with fail
  refine (C2.out w1 hb1).mono ?_
  rintro e w2 ⟨rfl, hb⟩
  have hb2 := hb1.trans (hb.mono hb1.size)
  clear hb hb1
  rcases Y with _ | _
  · obtain rfl : Z = [] := HZ0.out (by rw [HJ.out]; rfl)
    go_wp2
    go_ret
    exact ⟨⟨_, rfl, own_none w2 hb2.size⟩, hb2.alloc hb2.size _⟩
  obtain ⟨l1, g1⟩ := HW.out (by trivial)
  obtain ⟨l2, g2⟩ := HQ.out (by trivial)
  have HZ : Hid (Z = listF 64 (fun i => brF (gs.getD i 0 + xs.getD i 0) 0 255)) := HZ1.out (by rw [HJ.out]; rfl)
  have G1 : Hid (∀ i, i < 64 → 0 ≤ gs.getD i 0 ∧ gs.getD i 0 ≤ 255) := g1
  have G2 : Hid (∀ i, i < 64 → -10000000 ≤ xs.getD i 0 ∧ xs.getD i 0 ≤ 10000000) := g2
  have HL : Hid (gs.length = 64 ∧ xs.length = 64) := ⟨l1, l2⟩
  rw [l1, l2]
  clear HJ HW HQ HZ0 HZ1 C1 C2 g1 g2 l1 l2 m1 m2
  generalize hF : (fun i => brF (gs.getD i 0 + xs.getD i 0) 0 255) = F at *
  have HF : Hid (∀ i, F i = brF (gs.getD i 0 + xs.getD i 0) 0 255) := fun i => by rw [← hF]
  clear hF
  generalize hs : w.heap.size = s at *
  go_wp2_with (at_make; refine wpList_make_full _ (by rfl) _ _ 24 (by rfl) s 3 i0 (.int .i64 0) 1 Try.underlying24 hi0 hz0 hz1 .i64 .i64 _ _ 64 (by rfl) (by rfl) (by rfl) (by rfl) (by rw [hz2]; omega) (by unfold maxLen; omega) (by rw [← hs]; exact hb2.size) ?_; intro w3 hown0 hgrow0)
  have hb3 : Below s w w3 := hb2.grown hgrow0 (by rw [← hs]; exact hb2.size) (fun j hj => by cases hj)
  rw [upF_made F] at hown0
  clear hgrow0 hb2
  generalize w2.heap.size = g at *
  have hgs : s ≤ g := base_of_own hown0 g rfl
  go_loopw [20] (fun i wr => ∃ k : Nat, k ≤ 64 ∧ i = .int .i64 (k : Int) ∧ wr.ownsRow s 3 1 (.slice (some ⟨g, 0, none⟩) 64 64) 64 ((listF 64 (upF F (fun _ => 0) k)).map (Value.int .i64)) ∧ Below s w wr) (fun i _ => 64 - (intOf i).toNat)
  case atStart => exact ⟨0, by omega, rfl, hown0, hb3⟩
  case round =>
    obtain ⟨k, hk, rfl, hown, hb⟩ := hrel
    clear hown0 hb3
    by_cases hlt : k < 64
    · have l0 : (0 : Int) ≤ (k : Int) := by omega
      have l1 : (k : Int) < 64 := by omega
      obtain ⟨i1, i2⟩ := HI.out wr hb
      rcases i1 with h0 | ⟨b1, o1, rfl, hg1, hc1⟩
      · have := HL.out.1; rw [h0] at this; simp at this
      rcases i2 with h0 | ⟨b2, o2, rfl, hg2, hc2⟩
      · have := HL.out.2; rw [h0] at this; simp at this
      have d1 := hc1 k (by rw [HL.out.1]; exact hlt)
      have d2 := hc2 k (by rw [HL.out.2]; exact hlt)
      obtain ⟨p0, p1⟩ := G1.out k hlt
      obtain ⟨q0, q1⟩ := G2.out k hlt
      have hcc := hown.cellAt k (by omega)
      rw [map_at _ hlt, upF_at] at hcc
      have hfz := hown.frozenAt k
      have hst := hown.stored k (.int .i64 (F k))
      have hbs := hb.grown hst.2 (by rw [← hs]; exact hb.size) (fun j hj => by cases hj; exact hgs)
      have hos := hst.1
      rw [upF_set] at hos
      have CB : Hid (∀ w', Calls Try.prog 23 #[.int .i64 (gs.getD k 0 + xs.getD k 0), .int .i64 0, .int .i64 255] w' fun e w'' => e = .returned (.int .i64 (F k)) ∧ w'' = w') := fun w' => by
        rw [HF.out k]
        exact implBrought _ 0 255 w'
      generalize gs.getD k 0 = y at *
      generalize xs.getD k 0 = z at *
      generalize F k = x at *
      clear hst hown hc1 hc2
      go_wp2_with (go_at_call 23; refine (CB.out _).mono ?_; rintro e w5 ⟨rfl, hw⟩; subst w5)
      refine ⟨⟨k + 1, by omega, by go_num, hos, hbs⟩, ?_⟩
      simp [intOf]; omega
    · obtain rfl : k = 64 := by omega
      rw [upF_full, ← HZ.out] at hown
      have hn : Hid (Z.length = 64) := by show _ = _; rw [HZ.out, listF_length]
      have HO : Hid (wr.ownsRow w.heap.size 3 1 (.slice (some ⟨g, 0, none⟩) 64 64) Z.length (Z.map (Value.int .i64))) := by show World.ownsRow _ _ _ _ _ _ _; rw [hn.out, hs]; exact hown
      go_wp2
      go_ret
      exact ⟨⟨_, rfl, HO.out⟩, by rw [hs]; exact hb⟩

set_option maxHeartbeats 1600000 in
theorem specJoined (a1 a2 : Option Addr) (c1 c2 : Nat) (gs xs : List Int) (w : World) (h1 : Ints w a1 gs) (h2 : Ints w a2 xs) (m1 : gs.length ≤ maxLen) (m2 : xs.length ≤ maxLen) :
    Calls Try.prog 13 #[.slice a1 gs.length c1, .slice a2 xs.length c2] w fun e w' => (∃ v, e = .returned v ∧ w'.ownsRow w.heap.size 3 1 v (joinL gs xs).length ((joinL gs xs).map (Value.int .i64))) ∧ Below w.heap.size w w' := by
  obtain ⟨i0, hi0, hz0, hz1, hz2⟩ := info_parts infoI
  have HI : Hid (∀ w', Below w.heap.size w w' → Ints w' a1 gs ∧ Ints w' a2 xs) := fun w' hb => ⟨h1.below hb (Nat.le_refl _), h2.below hb (Nat.le_refl _)⟩
  have C1 : Hid (∀ w', Below w.heap.size w w' → Calls Try.prog 26 #[.slice a1 gs.length c1] w' fun e w'' => e = .returned (.bool (wantB gs)) ∧ Below w'.heap.size w' w'') := fun w' hb => l13Dots_any a1 c1 gs w' (h1.below hb (Nat.le_refl _)) m1
  have C2 : Hid (∀ w', Below w.heap.size w w' → Calls Try.prog 27 #[.slice a2 xs.length c2, .int .i64 64, .int .i64 10000000] w' fun e w'' => e = .returned (.bool (sqB 10000000 xs)) ∧ Below w'.heap.size w' w'') := fun w' hb => specAll a2 c2 64 xs 10000000 w' (h2.below hb (Nat.le_refl _)) m2 (by decide) (by decide)
  have HJ : Hid (jnB gs xs = (wantB gs && sqB 10000000 xs)) := rfl
  have HW : Hid (wantB gs = true → gs.length = 64 ∧ ∀ i, i < 64 → 0 ≤ gs.getD i 0 ∧ gs.getD i 0 ≤ 255) := fun h => by
    obtain ⟨e1, e2⟩ := wantB_of h
    exact ⟨e1, fun i hi => dotsB_iff.1 e2 i (by omega)⟩
  have HQ : Hid (sqB 10000000 xs = true → xs.length = 64 ∧ ∀ i, i < 64 → -10000000 ≤ xs.getD i 0 ∧ xs.getD i 0 ≤ 10000000) := fun h => ⟨(sqB_iff.1 h).1, sqB_at h⟩
  have HZ0 : Hid (jnB gs xs = false → joinL gs xs = []) := fun h => joinL_no h
  have HZ1 : Hid (jnB gs xs = true → joinL gs xs = listF 64 (fun i => brF (gs.getD i 0 + xs.getD i 0) 0 255)) := fun h => joinL_yes h
  unfold maxLen at m1 m2
  clear h1 h2
  generalize joinL gs xs = Z at *
  generalize jnB gs xs = J at *
  generalize wantB gs = X at *
  generalize sqB 10000000 xs = Y at *
  go_enter Try.func13, Try.ntmps13
  go_wp2_with fail
  have o0 := own_none w (B := w.heap.size) (Nat.le_refl _)
  have hb0 := (Below.refl w.heap.size w).alloc (Nat.le_refl _) (.cells #[] 3)
  generalize World.alloc w _ = V at *
  refine (C1.out V hb0).mono ?_
  rintro e w1 ⟨rfl, hb⟩
  have hb1 := hb0.trans (hb.mono hb0.size)
  have o1 := owned_below o0 hb
  clear hb hb0 o0
  rcases X with _ | _
  · obtain rfl : Z = [] := HZ0.out (by rw [HJ.out]; rfl)
    have O1 : Hid (World.ownsRow _ _ _ _ _ _ _) := o1
    clear o1
    go_wp2
    go_ret
    exact ⟨⟨_, rfl, O1.out⟩, hb1⟩
  have O1 : Hid (World.ownsRow _ _ _ _ _ _ _) := o1
  clear o1
  go_wp2_with fail
  refine (C2.out w1 hb1).mono ?_
  rintro e w2 ⟨rfl, hb⟩
  have hb2 := hb1.trans (hb.mono hb1.size)
  have O2 : Hid (World.ownsRow _ _ _ _ _ _ _) := owned_below O1.out hb
  clear hb hb1 O1
  rcases Y with _ | _
  · obtain rfl : Z = [] := HZ0.out (by rw [HJ.out]; rfl)
    go_wp2
    go_ret
    exact ⟨⟨_, rfl, O2.out⟩, hb2⟩
  obtain ⟨l1, g1⟩ := HW.out (by trivial)
  obtain ⟨l2, g2⟩ := HQ.out (by trivial)
  have HZ : Hid (Z = listF 64 (fun i => brF (gs.getD i 0 + xs.getD i 0) 0 255)) := HZ1.out (by rw [HJ.out]; rfl)
  have G1 : Hid (∀ i, i < 64 → 0 ≤ gs.getD i 0 ∧ gs.getD i 0 ≤ 255) := g1
  have G2 : Hid (∀ i, i < 64 → -10000000 ≤ xs.getD i 0 ∧ xs.getD i 0 ≤ 10000000) := g2
  have HL : Hid (gs.length = 64 ∧ xs.length = 64) := ⟨l1, l2⟩
  rw [l1, l2]
  clear HJ HW HQ HZ0 HZ1 C1 C2 g1 g2 l1 l2 m1 m2
  generalize hF : (fun i => brF (gs.getD i 0 + xs.getD i 0) 0 255) = F at *
  have HF : Hid (∀ i, F i = brF (gs.getD i 0 + xs.getD i 0) 0 255) := fun i => by rw [← hF]
  clear hF
  generalize hs : w.heap.size = s at *
  go_wp2_with fail
  go_loopw [5, 6] (fun v i wr => ∃ k : Nat, k ≤ 64 ∧ i = .int .i64 (k : Int) ∧ wr.ownsRow s 3 1 v k ((listF k F).map (Value.int .i64)) ∧ Below s w wr) (fun _ i _ => 64 - (intOf i).toNat)
  case atStart => exact ⟨0, by omega, rfl, O2.out, hb2⟩
  case round =>
    obtain ⟨k, hk, rfl, hown, hb⟩ := hrel
    clear O2 hb2
    by_cases hlt : k < 64
    · have l0 : (0 : Int) ≤ (k : Int) := by omega
      have l1 : (k : Int) < 64 := by omega
      obtain ⟨i1, i2⟩ := HI.out wr hb
      rcases i1 with h0 | ⟨b1, o1, rfl, hg1, hc1⟩
      · have := HL.out.1; rw [h0] at this; simp at this
      rcases i2 with h0 | ⟨b2, o2, rfl, hg2, hc2⟩
      · have := HL.out.2; rw [h0] at this; simp at this
      have e1 := hc1 k (by rw [HL.out.1]; exact hlt)
      have e2 := hc2 k (by rw [HL.out.2]; exact hlt)
      obtain ⟨p0, p1⟩ := G1.out k hlt
      obtain ⟨q0, q1⟩ := G2.out k hlt
      have CB : Hid (∀ w', Calls Try.prog 28 #[.int .i64 (gs.getD k 0 + xs.getD k 0), .int .i64 0, .int .i64 255] w' fun e w'' => e = .returned (.int .i64 (F k)) ∧ w'' = w') := fun w' => by
        rw [HF.out k]
        exact specBrought _ 0 255 w' (by decide)
      have HLk : Hid ((listF k F).map (Value.int .i64) ++ [.int .i64 (F k)] = (listF (k + 1) F).map (Value.int .i64)) := listF_end k F
      have HE : Hid (∀ w', Below s w w' → w'.cell? ⟨b1, o1 + k, none⟩ = some (.int .i64 (gs.getD k 0)) ∧ w'.cell? ⟨b2, o2 + k, none⟩ = some (.int .i64 (xs.getD k 0))) := fun w' hb => by
        obtain ⟨i1, i2⟩ := HI.out w' hb
        exact ⟨ints_there i1 (by rw [HL.out.1]; exact hlt), ints_there i2 (by rw [HL.out.2]; exact hlt)⟩
      have hsz : s ≤ wr.heap.size := by rw [← hs]; exact hb.size
      generalize gs.getD k 0 = y at *
      generalize xs.getD k 0 = z at *
      generalize F k = x at *
      clear hc1 hc2
      have hw1 : IntKind.i64.wrap (y + z) = y + z := IntWalk.i64_in _ ⟨by omega, by omega⟩
      go_wp2_with fail
      go_region_held3 (fun w' => w'.cell? ⟨b1, o1 + k, none⟩ = some (.int .i64 y) ∧ w'.cell? ⟨b2, o2 + k, none⟩ = some (.int .i64 z))
        (first | (with_reducible exact hS) | go_keep)
        (first
          | (go_at_call 28; refine (CB.out _).mono ?_; rintro e w5 ⟨rfl, hw⟩; subst w5)
          | (refine step_append_lies _ (by rfl) _ _ _ (by rfl) s 3 i0 (.int .i64 0) 1 8 Try.underlying24 hi0 hz0 hz1 hz2 rfl (by omega) u5 k _ (by rfl) ((hown.alloc _).drew)
              ⟨wr.heap.size, 0, none⟩ 1 1 [.int .i64 x] (by rfl) (by rfl) (World.news_of_block (cs := #[.int .i64 x]) (t := 3) (fr := (0, 0)) (heap_alloc_new wr _)) (by simp [Value.oneCell'])
              (by omega) (by unfold maxLen; omega) (by omega) (by simp; omega) (wr.heap.size + 1) (by simp) ?_; intro g6 c6 w6 hown6 hgrow hat hlt6; have hb6 : Below s w w6 := ((hb.alloc hsz _).drew).grown hgrow (by simp; omega) (base_of_own hown); have hS := HE.out w6 hb6))
      all_goals
        obtain ⟨e3, e4⟩ := hS
        rw [HLk.out] at hown6
        clear hgrow hat
        go_wp2
        refine ⟨⟨k + 1, by omega, by go_num, hown6, hb6⟩, ?_⟩
        simp [intOf]; omega
    · obtain rfl : k = 64 := by omega
      have hn : Hid (Z.length = 64) := by show _ = _; rw [HZ.out, listF_length]
      have HO : Hid (wr.ownsRow w.heap.size 3 1 u5 Z.length (Z.map (Value.int .i64))) := by show World.ownsRow _ _ _ _ _ _ _; rw [hn.out, hs, HZ.out]; exact hown
      go_wp2
      go_ret
      exact ⟨⟨_, rfl, HO.out⟩, by rw [hs]; exact hb⟩
end Go.Proofs.Ytlejfkjanllgbaa
