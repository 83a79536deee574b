/-
  How far apart two pictures are: the walks of impl.Apart and spec.Apart.
-/
import Derived.Test.YtpodpfdbklffgaaDotKit
namespace Go.Proofs.Ytpodpfdbklffgaa
open Go.RowKit
set_option linter.unusedVariables false
set_option maxRecDepth 20000

set_option maxHeartbeats 400000 in
theorem without_any (x : Int) (w : World) (h : -255 ≤ x ∧ x ≤ 255) : Calls Try.prog 50 #[.int .i64 x] w fun e w' => e = .returned (.int .i64 (absN x)) ∧ w' = w := by
  unfold absN
  by_cases h0 : x < 0
  · rw [if_pos h0]
    go_enter Try.func50, Try.ntmps50
    go_wp2
    go_ret
    exact ⟨rfl, rfl⟩
  · rw [if_neg h0]
    go_enter Try.func50, Try.ntmps50
    go_wp2
    go_ret
    exact ⟨rfl, rfl⟩
set_option maxHeartbeats 400000 in
theorem sized_any (x : Int) (w : World) (h : -255 ≤ x ∧ x ≤ 255) : Calls Try.prog 58 #[.int .i64 x] w fun e w' => e = .returned (.int .i64 (absN x)) ∧ w' = w := by
  unfold absN
  by_cases h0 : x < 0
  · rw [if_pos h0]
    go_enter Try.func58, Try.ntmps58
    go_wp2
    go_ret
    exact ⟨rfl, rfl⟩
  · rw [if_neg h0]
    go_enter Try.func58, Try.ntmps58
    go_wp2
    go_ret
    exact ⟨rfl, rfl⟩

/-- The cells of two pictures, in two blocks. -/
abbrev TwoIn (w : World) (g1 g2 : Nat) (W H : Int) (s : ByteArray) (W' H' : Int) (s' : ByteArray) : Prop :=
  (w.cell? ⟨g1, 0, none⟩ = some (.int .i64 W) ∧ w.cell? ⟨g1, 1, none⟩ = some (.int .i64 H) ∧ w.cell? ⟨g1, 2, none⟩ = some (.string s)) ∧
  (w.cell? ⟨g2, 0, none⟩ = some (.int .i64 W') ∧ w.cell? ⟨g2, 1, none⟩ = some (.int .i64 H') ∧ w.cell? ⟨g2, 2, none⟩ = some (.string s'))

set_option maxHeartbeats 1600000 in
theorem implApart (W H : Int) (s : ByteArray) (W' H' : Int) (s' : ByteArray) (w : World) :
    Calls Try.prog 18 #[picV W H s, picV W' H' s'] w fun e w' => e = .returned (.int .i64 (apartF W H s W' H' s')) ∧ Below w.heap.size w w' := by
  have CO : Hid (∀ w', Calls Try.prog 21 #[picV W H s] w' (fun e w'' => e = .returned (.bool (picB W H s)) ∧ Below w'.heap.size w' w'')) := fun w' => implPicOk W H s w'
  have CP : Hid (∀ w', Calls Try.prog 21 #[picV W' H' s'] w' (fun e w'' => e = .returned (.bool (picB W' H' s')) ∧ Below w'.heap.size w' w'')) := fun w' => implPicOk W' H' s' w'
  have HV : Hid (apartF W H s W' H' s' = if (picB W H s && picB W' H' s' && decide (W = W') && decide (H = H')) = true then apartN s s' s.size else -1) := rfl
  have HS1 : Hid (picB W H s = true → (s.size : Int) = W * H ∧ (s.size : Int) ≤ 65536) := fun h => by
    obtain ⟨h1, h2, h3⟩ := picB_iff.1 h
    have := sides_mul h1 h2
    exact ⟨h3, by omega⟩
  have HS2 : Hid (picB W' H' s' = true → (s'.size : Int) = W' * H') := fun h => (picB_iff.1 h).2.2
  generalize apartF W H s W' H' s' = R at *
  generalize picB W H s = b1 at *
  generalize picB W' H' s' = b2 at *
  go_enter Try.func18, Try.ntmps18
  go_wp2_with fail
  generalize hW : World.alloc w _ = V
  have B0 : Blk V w.heap.size #[.int .i64 W, .int .i64 H, .string s] 25 := by rw [← hW]; exact Blk.new w _ _
  have hs0 : V.heap.size = w.heap.size + 1 := by rw [← hW]; simp
  have hb0 : Below w.heap.size w V := by rw [← hW]; exact (Below.refl _ _).alloc (Nat.le_refl _) _
  clear hW
  generalize hX : World.alloc V _ = X
  have A1 : Blk X w.heap.size #[.int .i64 W, .int .i64 H, .string s] 25 := by rw [← hX]; exact B0.alloc _
  have B1 : Blk X (w.heap.size + 1) #[.int .i64 W', .int .i64 H', .string s'] 25 := by rw [← hX, ← hs0]; exact Blk.new V _ _
  have hb1 : Below w.heap.size w X := by rw [← hX]; exact hb0.alloc hb0.size _
  clear hX hb0 B0 hs0
  have BK : Hid (∀ w', Below X.heap.size X w' → TwoIn w' w.heap.size (w.heap.size + 1) W H s W' H' s') := fun w' h => ⟨(A1.below h A1.lt).three.1, (B1.below h B1.lt).three.1⟩
  clear A1 B1
  refine (CO.out X).mono ?_
  rintro e w1 ⟨rfl, hc1⟩
  obtain ⟨⟨x0, x1, x2⟩, y0, y1, y2⟩ := BK.out w1 hc1
  have hb2 := hb1.trans (hc1.mono hb1.size)
  cases b1 with
  | false =>
    obtain rfl : R = -1 := HV.out
    go_wp2
    go_ret
    exact ⟨rfl, hb2⟩
  | true =>
    go_wp2_with fail
    refine (CP.out w1).mono ?_
    rintro e w2 ⟨rfl, hc2'⟩
    have hc2 := hc1.trans (hc2'.mono hc1.size)
    have hb3 := hb1.trans (hc2.mono hb1.size)
    clear x0 x1 x2 y0 y1 y2
    obtain ⟨⟨x0, x1, x2⟩, y0, y1, y2⟩ := BK.out w2 hc2
    clear hb2 hc1 hc2'
    cases b2 with
    | false =>
      obtain rfl : R = -1 := HV.out
      go_wp2
      go_ret
      exact ⟨rfl, hb3⟩
    | true =>
      by_cases hw : W = W'
      · by_cases hh : H = H'
        · obtain ⟨z1, z2⟩ := HS1.out (by simp)
          have z3 := HS2.out (by simp)
          subst hw hh
          have hv : R = apartN s s' s.size := by have := HV.out; simpa using this
          have HR : Hid (R = apartN s s' s.size) := hv
          have hz : s'.size = s.size := by omega
          clear HV HS1 HS2 hv z1 z3 CO CP
          go_wp2
          go_loopw [5, 32] (fun u i wr => ∃ k : Nat, k ≤ s.size ∧ i = .int .i64 (k : Int) ∧ u = .int .i64 (apartN s s' k) ∧ Below X.heap.size X wr) (fun _ i _ => s.size - (intOf i).toNat)
          case atStart => exact ⟨0, Nat.zero_le _, rfl, rfl, hc2⟩
          case round =>
            obtain ⟨k, hk, rfl, rfl, hb⟩ := hrel
            clear hc2 hb3 x0 x1 x2 y0 y1 y2
            obtain ⟨⟨x0, x1, x2⟩, y0, y1, y2⟩ := BK.out wr hb
            have l0 : (0 : Int) ≤ (k : Int) := by omega
            by_cases hlt : k < s.size
            · have l1 : (k : Int) < (s.size : Int) := by omega
              have l2 : (k : Int) < (s'.size : Int) := by omega
              have hlt' : k < s'.size := by omega
              have e1 := bAt_eq s k hlt
              have e2 := bAt_eq s' k hlt'
              have d1 := bAt_in s k
              have d2 := bAt_in s' k
              have a1 := apartN_in s s' k
              have HA : Hid (apartN s s' (k + 1) = apartN s s' k + absN (bAt s k - bAt s' k)) := rfl
              have a2 : 0 ≤ absN (bAt s k - bAt s' k) ∧ absN (bAt s k - bAt s' k) ≤ 255 := by unfold absN; split <;> omega
              have CW : Hid (∀ w', Calls Try.prog 50 #[.int .i64 (bAt s k - bAt s' k)] w' (fun e w'' => e = .returned (.int .i64 (absN (bAt s k - bAt s' k))) ∧ w'' = w')) := fun w' => without_any _ _ (by omega)
              generalize absN (bAt s k - bAt s' k) = c at *
              generalize bAt s k = p1 at *
              generalize bAt s' k = p2 at *
              generalize apartN s s' k = a at *
              obtain ⟨q, hq⟩ : ∃ q, q = p1 - p2 := ⟨_, rfl⟩
              have g1 := IntWalk.i64_in p1 ⟨by omega, by omega⟩
              have g2 := IntWalk.i64_in p2 ⟨by omega, by omega⟩
              have g3 : IntKind.i64.wrap (p1 - p2) = q := by rw [hq]; exact IntWalk.i64_in _ ⟨by omega, by omega⟩
              have g4 : IntKind.i64.wrap (a + c) = a + c := IntWalk.i64_in _ ⟨by omega, by omega⟩
              rw [← hq] at CW
              clear hq a1 a2 d1 d2 x0 x1 y0 y1
              go_wp2_with fail
              go_region_held3 (fun w' => w'.cell? ⟨w.heap.size, 2, none⟩ = some (.string s) ∧ w'.cell? ⟨w.heap.size + 1, 2, none⟩ = some (.string s'))
                (first | go_keep)
                (first
                  | (go_at_call 50; refine (CW.out _).mono ?_; rintro e w3 ⟨rfl, hw⟩; subst w3))
              go_wp2
              all_goals exact ⟨⟨k + 1, by omega, by go_num, by rw [HA.out], hb.drew⟩, by simp [intOf]; omega⟩
            · obtain rfl : k = s.size := by omega
              rw [← HR.out]
              go_wp2
              go_ret
              exact ⟨rfl, hb1.trans (hb.mono hb1.size)⟩
        · obtain rfl : R = -1 := by have := HV.out; simpa [hh] using this
          go_wp2
          go_ret
          exact ⟨rfl, hb3⟩
      · obtain rfl : R = -1 := by have := HV.out; simpa [hw] using this
        go_wp2
        go_ret
        exact ⟨rfl, hb3⟩

set_option maxHeartbeats 1600000 in
theorem specApart (W H : Int) (s : ByteArray) (W' H' : Int) (s' : ByteArray) (w : World) :
    Calls Try.prog 35 #[picV W H s, picV W' H' s'] w fun e w' => e = .returned (.int .i64 (apartF W H s W' H' s')) ∧ Below w.heap.size w w' := by
  have CO : Hid (∀ w', Calls Try.prog 23 #[picV W H s] w' (fun e w'' => e = .returned (.bool (picB W H s)) ∧ Below w'.heap.size w' w'')) := fun w' => specPicOk W H s w'
  have CP : Hid (∀ w', Calls Try.prog 23 #[picV W' H' s'] w' (fun e w'' => e = .returned (.bool (picB W' H' s')) ∧ Below w'.heap.size w' w'')) := fun w' => specPicOk W' H' s' w'
  have HV : Hid (apartF W H s W' H' s' = if (picB W H s && picB W' H' s' && decide (W = W') && decide (H = H')) = true then apartN s s' s.size else -1) := rfl
  have HS1 : Hid (picB W H s = true → (s.size : Int) = W * H ∧ (s.size : Int) ≤ 65536) := fun h => by
    obtain ⟨h1, h2, h3⟩ := picB_iff.1 h
    have := sides_mul h1 h2
    exact ⟨h3, by omega⟩
  have HS2 : Hid (picB W' H' s' = true → (s'.size : Int) = W' * H') := fun h => (picB_iff.1 h).2.2
  generalize apartF W H s W' H' s' = R at *
  generalize picB W H s = b1 at *
  generalize picB W' H' s' = b2 at *
  go_enter Try.func35, Try.ntmps35
  go_wp2_with fail
  generalize hW : World.alloc w _ = V
  have B0 : Blk V w.heap.size #[.int .i64 W, .int .i64 H, .string s] 25 := by rw [← hW]; exact Blk.new w _ _
  have hs0 : V.heap.size = w.heap.size + 1 := by rw [← hW]; simp
  have hb0 : Below w.heap.size w V := by rw [← hW]; exact (Below.refl _ _).alloc (Nat.le_refl _) _
  clear hW
  generalize hX : World.alloc V _ = X
  have A1 : Blk X w.heap.size #[.int .i64 W, .int .i64 H, .string s] 25 := by rw [← hX]; exact B0.alloc _
  have B1 : Blk X (w.heap.size + 1) #[.int .i64 W', .int .i64 H', .string s'] 25 := by rw [← hX, ← hs0]; exact Blk.new V _ _
  have hb1 : Below w.heap.size w X := by rw [← hX]; exact hb0.alloc hb0.size _
  clear hX hb0 B0 hs0
  have BK : Hid (∀ w', Below X.heap.size X w' → TwoIn w' w.heap.size (w.heap.size + 1) W H s W' H' s') := fun w' h => ⟨(A1.below h A1.lt).three.1, (B1.below h B1.lt).three.1⟩
  clear A1 B1
  refine (CO.out X).mono ?_
  rintro e w1 ⟨rfl, hc1⟩
  obtain ⟨⟨x0, x1, x2⟩, y0, y1, y2⟩ := BK.out w1 hc1
  have hb2 := hb1.trans (hc1.mono hb1.size)
  cases b1 with
  | false =>
    obtain rfl : R = -1 := HV.out
    go_wp2
    go_ret
    exact ⟨rfl, hb2⟩
  | true =>
    go_wp2_with fail
    refine (CP.out w1).mono ?_
    rintro e w2 ⟨rfl, hc2'⟩
    have hc2 := hc1.trans (hc2'.mono hc1.size)
    have hb3 := hb1.trans (hc2.mono hb1.size)
    clear x0 x1 x2 y0 y1 y2
    obtain ⟨⟨x0, x1, x2⟩, y0, y1, y2⟩ := BK.out w2 hc2
    clear hb2 hc1 hc2'
    cases b2 with
    | false =>
      obtain rfl : R = -1 := HV.out
      go_wp2
      go_ret
      exact ⟨rfl, hb3⟩
    | true =>
      by_cases hw : W = W'
      · by_cases hh : H = H'
        · obtain ⟨z1, z2⟩ := HS1.out (by simp)
          have z3 := HS2.out (by simp)
          subst hw hh
          have hv : R = apartN s s' s.size := by have := HV.out; simpa using this
          have HR : Hid (R = apartN s s' s.size) := hv
          have hz : s'.size = s.size := by omega
          clear HV HS1 HS2 hv z1 z3 CO CP
          go_wp2
          go_loopw [5, 6] (fun u i wr => ∃ k : Nat, k ≤ s.size ∧ i = .int .i64 (k : Int) ∧ u = .int .i64 (apartN s s' k) ∧ Below X.heap.size X wr) (fun _ i _ => s.size - (intOf i).toNat)
          case atStart => exact ⟨0, Nat.zero_le _, rfl, rfl, hc2⟩
          case round =>
            obtain ⟨k, hk, rfl, rfl, hb⟩ := hrel
            clear hc2 hb3 x0 x1 x2 y0 y1 y2
            obtain ⟨⟨x0, x1, x2⟩, y0, y1, y2⟩ := BK.out wr hb
            have l0 : (0 : Int) ≤ (k : Int) := by omega
            by_cases hlt : k < s.size
            · have l1 : (k : Int) < (s.size : Int) := by omega
              have l2 : (k : Int) < (s'.size : Int) := by omega
              have hlt' : k < s'.size := by omega
              have e1 := bAt_eq s k hlt
              have e2 := bAt_eq s' k hlt'
              have d1 := bAt_in s k
              have d2 := bAt_in s' k
              have a1 := apartN_in s s' k
              have HA : Hid (apartN s s' (k + 1) = apartN s s' k + absN (bAt s k - bAt s' k)) := rfl
              have a2 : 0 ≤ absN (bAt s k - bAt s' k) ∧ absN (bAt s k - bAt s' k) ≤ 255 := by unfold absN; split <;> omega
              have CW : Hid (∀ w', Calls Try.prog 58 #[.int .i64 (bAt s k - bAt s' k)] w' (fun e w'' => e = .returned (.int .i64 (absN (bAt s k - bAt s' k))) ∧ w'' = w')) := fun w' => sized_any _ _ (by omega)
              generalize absN (bAt s k - bAt s' k) = c at *
              generalize bAt s k = p1 at *
              generalize bAt s' k = p2 at *
              generalize apartN s s' k = a at *
              obtain ⟨q, hq⟩ : ∃ q, q = p1 - p2 := ⟨_, rfl⟩
              have g1 := IntWalk.i64_in p1 ⟨by omega, by omega⟩
              have g2 := IntWalk.i64_in p2 ⟨by omega, by omega⟩
              have g3 : IntKind.i64.wrap (p1 - p2) = q := by rw [hq]; exact IntWalk.i64_in _ ⟨by omega, by omega⟩
              have g4 : IntKind.i64.wrap (a + c) = a + c := IntWalk.i64_in _ ⟨by omega, by omega⟩
              rw [← hq] at CW
              clear hq a1 a2 d1 d2 x0 x1 y0 y1
              go_wp2_with fail
              go_region_held3 (fun w' => w'.cell? ⟨w.heap.size, 2, none⟩ = some (.string s) ∧ w'.cell? ⟨w.heap.size + 1, 2, none⟩ = some (.string s'))
                (first | go_keep)
                (first
                  | (go_at_call 58; refine (CW.out _).mono ?_; rintro e w3 ⟨rfl, hw⟩; subst w3))
              go_wp2
              all_goals exact ⟨⟨k + 1, by omega, by go_num, by rw [HA.out], hb.drew⟩, by simp [intOf]; omega⟩
            · obtain rfl : k = s.size := by omega
              rw [← HR.out]
              go_wp2
              go_ret
              exact ⟨rfl, hb1.trans (hb.mono hb1.size)⟩
        · obtain rfl : R = -1 := by have := HV.out; simpa [hh] using this
          go_wp2
          go_ret
          exact ⟨rfl, hb3⟩
      · obtain rfl : R = -1 := by have := HV.out; simpa [hw] using this
        go_wp2
        go_ret
        exact ⟨rfl, hb3⟩
end Go.Proofs.Ytpodpfdbklffgaa
