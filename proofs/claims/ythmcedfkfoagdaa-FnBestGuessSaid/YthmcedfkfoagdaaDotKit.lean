/-
  The walks of impl.Brought and spec.Brought, of a picture's places and dots, of impl.DotAt and spec.DotAt.
-/
import Derived.Test.YthmcedfkfoagdaaPicKit
import Derived.Deep.RegionHeld3
import Derived.Deep.RegionWith
import Derived.Deep.QuietTactic
import Derived.BigQuiet
namespace Go.Proofs.Ythmcedfkfoagdaa
open Go.RowKit
set_option linter.unusedVariables false
set_option maxRecDepth 20000

set_option maxHeartbeats 400000 in
theorem implBrought (n l m : Int) (w : World) : Calls Try.prog 76 #[.int .i64 n, .int .i64 l, .int .i64 m] w fun e w' => e = .returned (.int .i64 (brF n l m)) ∧ w' = w := by
  unfold brF
  by_cases h1 : m < n
  · rw [show min n m = m by omega]
    by_cases h2 : l < m
    · rw [show max l m = m by omega]
      go_enter Try.func76, Try.ntmps76
      go_wp2
      all_goals go_ret
      all_goals exact ⟨by simp; try omega, rfl⟩
    · rw [show max l m = l by omega]
      go_enter Try.func76, Try.ntmps76
      go_wp2
      all_goals go_ret
      all_goals exact ⟨by simp; try omega, rfl⟩
  · rw [show min n m = n by omega]
    by_cases h2 : l < n
    · rw [show max l n = n by omega]
      go_enter Try.func76, Try.ntmps76
      go_wp2
      all_goals go_ret
      all_goals exact ⟨by simp; try omega, rfl⟩
    · rw [show max l n = l by omega]
      go_enter Try.func76, Try.ntmps76
      go_wp2
      all_goals go_ret
      all_goals exact ⟨by simp; try omega, rfl⟩

set_option maxHeartbeats 400000 in
theorem specBrought (n l m : Int) (w : World) (h : l ≤ m) : Calls Try.prog 61 #[.int .i64 n, .int .i64 l, .int .i64 m] w fun e w' => e = .returned (.int .i64 (brF n l m)) ∧ w' = w := by
  have h0 : ¬ m < l := by omega
  by_cases h1 : n < l
  · rw [show brF n l m = l by unfold brF; omega]
    go_enter Try.func61, Try.ntmps61
    go_wp2
    go_ret
    exact ⟨rfl, rfl⟩
  · by_cases h2 : m < n
    · rw [show brF n l m = m by unfold brF; omega]
      go_enter Try.func61, Try.ntmps61
      go_wp2
      go_ret
      exact ⟨rfl, rfl⟩
    · rw [show brF n l m = n by unfold brF; omega]
      go_enter Try.func61, Try.ntmps61
      go_wp2
      go_ret
      exact ⟨rfl, rfl⟩

set_option maxHeartbeats 800000 in
theorem placeOf_any (W H : Int) (s : ByteArray) (x y p : Int) (w : World) (hp : y * W + x = p) (h1 : 0 ≤ y * W ∧ y * W ≤ 1000000) (h2 : 0 ≤ x ∧ x ≤ 1000000) :
    Calls Try.prog 75 #[picV W H s, .int .i64 x, .int .i64 y] w fun e w' => e = .returned (.int .i64 p) ∧ Below w.heap.size w w' := by
  go_enter Try.func75, Try.ntmps75
  go_wp2
  go_ret
  exact ⟨by rw [← hp]; rfl, by go_grown⟩

set_option maxHeartbeats 1600000 in
theorem dotNearest (W H : Int) (s : ByteArray) (x y : Int) (w : World) (h : picB W H s = true) :
    Calls Try.prog 55 #[picV W H s, .int .i64 x, .int .i64 y] w fun e w' => e = .returned (.int .i64 (dotF W H s x y)) ∧ Below w.heap.size w w' := by
  obtain ⟨h1, h2, h3⟩ := picB_iff.1 h
  have b3 := sides_mul h1 h2
  have hp := place_in (W := W) (H := H) (x := x) (y := y) h1.1 h2.1
  obtain ⟨p, hpe⟩ : ∃ p : Nat, placeF W H x y = (p : Int) := ⟨(placeF W H x y).toNat, by omega⟩
  have q1 := brF_in (n := x) (l := 0) (m := W - 1) (by omega)
  have q2 := brF_in (n := y) (l := 0) (m := H - 1) (by omega)
  have q3 : 0 ≤ brF y 0 (H - 1) * W := Int.mul_nonneg q2.1 (by omega)
  obtain ⟨W1, hW1⟩ : ∃ W1 : Int, W1 = W - 1 := ⟨_, rfl⟩
  obtain ⟨H1, hH1⟩ : ∃ H1 : Int, H1 = H - 1 := ⟨_, rfl⟩
  have pw : IntKind.i64.wrap (W - 1) = W1 := by rw [hW1]; exact IntWalk.i64_in _ ⟨by omega, by omega⟩
  have ph : IntKind.i64.wrap (H - 1) = H1 := by rw [hH1]; exact IntWalk.i64_in _ ⟨by omega, by omega⟩
  rw [← hW1] at q1
  rw [← hH1] at q2 q3
  unfold placeF at hpe hp
  rw [← hW1, ← hH1] at hpe hp
  have CX : Hid (∀ w', Calls Try.prog 76 #[.int .i64 x, .int .i64 0, .int .i64 W1] w' (fun e w'' => e = .returned (.int .i64 (brF x 0 W1)) ∧ w'' = w')) := fun w' => implBrought _ _ _ _
  have CY : Hid (∀ w', Calls Try.prog 76 #[.int .i64 y, .int .i64 0, .int .i64 H1] w' (fun e w'' => e = .returned (.int .i64 (brF y 0 H1)) ∧ w'' = w')) := fun w' => implBrought _ _ _ _
  have CP : Hid (∀ w', Calls Try.prog 75 #[picV W H s, .int .i64 (brF x 0 W1), .int .i64 (brF y 0 H1)] w' (fun e w'' => e = .returned (.int .i64 (p : Int)) ∧ Below w'.heap.size w' w'')) := fun w' => placeOf_any W H s _ _ _ w' hpe ⟨q3, by omega⟩ ⟨q1.1, by omega⟩
  have hlt : p < s.size := by omega
  have hlt' : (p : Int) < (s.size : Int) := by omega
  have hd : dotF W H s x y = (s[p].toNat : Int) := by rw [bAt_eq s p hlt]; unfold dotF placeF; rw [← hW1, ← hH1, hpe]; rfl
  have hdb := dotF_in W H s x y
  have hd' := hd.symm
  generalize dotF W H s x y = D at *
  clear hd hpe hp q1 q2 q3 h b3 h3 hW1 hH1 h1 h2
  generalize brF x 0 W1 = bx at *
  generalize brF y 0 H1 = bY at *
  go_enter Try.func55, Try.ntmps55
  go_wp2_with fail
  generalize hW : World.alloc w _ = V
  have B0 : Blk V w.heap.size #[.int .i64 W, .int .i64 H, .string s] 40 := by rw [← hW]; exact Blk.new w _ _
  have hb0 : Below w.heap.size w V := by rw [← hW]; exact (Below.refl _ _).alloc (Nat.le_refl _) _
  clear hW
  have BK : Hid (∀ w', Below V.heap.size V w' → (w'.cell? ⟨w.heap.size, 0, none⟩ = some (.int .i64 W) ∧ w'.cell? ⟨w.heap.size, 1, none⟩ = some (.int .i64 H) ∧ w'.cell? ⟨w.heap.size, 2, none⟩ = some (.string s))) :=
    fun w' h => (B0.below h B0.lt).three.1
  have s0 := BK.out V (Below.refl _ _)
  obtain ⟨x0, x1, x2⟩ := s0
  clear B0
  go_region_held3 (fun w' => w'.cell? ⟨w.heap.size, 0, none⟩ = some (.int .i64 W) ∧ w'.cell? ⟨w.heap.size, 1, none⟩ = some (.int .i64 H) ∧ w'.cell? ⟨w.heap.size, 2, none⟩ = some (.string s))
    (first | go_keep | exact BK.out _ hc3)
    (first
      | (go_at_call_of 76 (Value.int IntKind.i64 W1); refine (CX.out _).mono ?_; rintro e w1 ⟨rfl, hw⟩; subst w1)
      | (go_at_call_of 76 (Value.int IntKind.i64 H1); refine (CY.out _).mono ?_; rintro e w2 ⟨rfl, hw⟩; subst w2)
      | (go_at_call 75; refine (CP.out _).mono ?_; rintro e w3 ⟨rfl, hc3'⟩; have hc3 : Below V.heap.size V w3 := (Below.refl V.heap.size V).drew.trans hc3'; clear hc3'))
  obtain ⟨y0, y1, y2⟩ := BK.out w3 hc3
  have hb3 := hb0.trans (hc3.mono hb0.size)
  clear BK hb0 hc3 x0 x1 x2 CX CY CP
  go_wp2
  go_ret
  exact ⟨rfl, hb3⟩

set_option maxHeartbeats 1600000 in
theorem specDotAt (W H : Int) (s : ByteArray) (x y : Int) (w : World) :
    Calls Try.prog 52 #[picV W H s, .int .i64 x, .int .i64 y] w fun e w' => e = .returned (.int .i64 (dotO W H s x y)) ∧ Below w.heap.size w w' := by
  have CO : Hid (∀ w', Calls Try.prog 72 #[picV W H s] w' (fun e w'' => e = .returned (.bool (picB W H s)) ∧ Below w'.heap.size w' w'')) := fun w' => specPicOk W H s w'
  have HV0 : Hid (picB W H s = false → dotO W H s x y = -1) := fun h => by simp [dotO, h]
  have HV1 : Hid (picB W H s = true → dotO W H s x y = dotF W H s x y) := fun h => by simp [dotO, h]
  have HP : Hid (picB W H s = true → (1 ≤ W ∧ W ≤ 256) ∧ (1 ≤ H ∧ H ≤ 256) ∧ (s.size : Int) = W * H) := picB_iff.1
  have hdb := dotF_in W H s x y
  have HE : Hid (∀ (p : Nat) (h : p < s.size), placeF W H x y = (p : Int) → (s[p].toNat : Int) = dotF W H s x y) := fun p h e => by rw [bAt_eq s p h]; unfold dotF; rw [e]; rfl
  generalize dotF W H s x y = D at *
  generalize dotO W H s x y = O at *
  generalize picB W H s = B at *
  go_enter Try.func52, Try.ntmps52
  go_wp2_with fail
  generalize hW : World.alloc w _ = V
  have B0 : Blk V w.heap.size #[.int .i64 W, .int .i64 H, .string s] 40 := by rw [← hW]; exact Blk.new w _ _
  have hb0 : Below w.heap.size w V := by rw [← hW]; exact (Below.refl _ _).alloc (Nat.le_refl _) _
  clear hW
  refine (CO.out V).mono ?_
  rintro e w1 ⟨rfl, hc⟩
  have hb1 := hb0.trans (hc.mono hb0.size)
  have B1 := B0.below hc B0.lt
  clear hc hb0 B0
  obtain ⟨⟨x0, x1, x2⟩, _⟩ := B1.three
  cases B with
  | false =>
    obtain rfl := HV0.out rfl
    go_wp2
    go_ret
    exact ⟨rfl, hb1⟩
  | true =>
    obtain rfl := HV1.out rfl
    obtain ⟨h1, h2, h3⟩ := HP.out rfl
    have b3 := sides_mul h1 h2
    have hp := place_in (W := W) (H := H) (x := x) (y := y) h1.1 h2.1
    obtain ⟨p, hpe⟩ : ∃ p : Nat, placeF W H x y = (p : Int) := ⟨(placeF W H x y).toNat, by omega⟩
    have q1 := brF_in (n := x) (l := 0) (m := W - 1) (by omega)
    have q2 := brF_in (n := y) (l := 0) (m := H - 1) (by omega)
    have q3 : 0 ≤ brF y 0 (H - 1) * W := Int.mul_nonneg q2.1 (by omega)
    obtain ⟨W1, hW1⟩ : ∃ W1 : Int, W1 = W - 1 := ⟨_, rfl⟩
    obtain ⟨H1, hH1⟩ : ∃ H1 : Int, H1 = H - 1 := ⟨_, rfl⟩
    have pw : IntKind.i64.wrap (W - 1) = W1 := by rw [hW1]; exact IntWalk.i64_in _ ⟨by omega, by omega⟩
    have ph : IntKind.i64.wrap (H - 1) = H1 := by rw [hH1]; exact IntWalk.i64_in _ ⟨by omega, by omega⟩
    rw [← hW1] at q1
    rw [← hH1] at q2 q3
    unfold placeF at hpe hp
    rw [← hW1, ← hH1] at hpe hp
    have CX : Hid (∀ w', Calls Try.prog 61 #[.int .i64 x, .int .i64 0, .int .i64 W1] w' (fun e w'' => e = .returned (.int .i64 (brF x 0 W1)) ∧ w'' = w')) := fun w' => specBrought _ _ _ _ (by omega)
    have CY : Hid (∀ w', Calls Try.prog 61 #[.int .i64 y, .int .i64 0, .int .i64 H1] w' (fun e w'' => e = .returned (.int .i64 (brF y 0 H1)) ∧ w'' = w')) := fun w' => specBrought _ _ _ _ (by omega)
    have hlt : p < s.size := by omega
    have hlt' : (p : Int) < (s.size : Int) := by omega
    have hd' := HE.out p hlt (by unfold placeF; rw [← hW1, ← hH1]; exact hpe)
    have hdw := IntWalk.i64_in O ⟨by omega, by omega⟩
    generalize brF x 0 W1 = bx at *
    generalize brF y 0 H1 = bY at *
    obtain ⟨z, hz⟩ : ∃ z : Int, z = bY * W := ⟨_, rfl⟩
    rw [← hz] at hpe hp q3
    have pz : IntKind.i64.wrap (bY * W) = z := by rw [hz]; exact IntWalk.i64_in _ ⟨by omega, by omega⟩
    have pp : IntKind.i64.wrap (z + bx) = (p : Int) := by rw [hpe]; exact IntWalk.i64_in _ ⟨by omega, by omega⟩
    clear HE hpe hp q1 q2 q3 b3 h3 hW1 hH1 h1 h2 hz HP HV0 HV1 CO
    go_wp2_with fail
    go_region_held3 (fun w' => w'.cell? ⟨w.heap.size, 0, none⟩ = some (.int .i64 W) ∧ w'.cell? ⟨w.heap.size, 1, none⟩ = some (.int .i64 H) ∧ w'.cell? ⟨w.heap.size, 2, none⟩ = some (.string s))
      (first | go_keep)
      (first
        | (go_at_call_of 61 (Value.int IntKind.i64 W1); refine (CX.out _).mono ?_; rintro e w3 ⟨rfl, hw⟩; subst w3)
        | (go_at_call_of 61 (Value.int IntKind.i64 H1); refine (CY.out _).mono ?_; rintro e w2 ⟨rfl, hw⟩; subst w2))
    go_wp2
    go_ret
    exact ⟨rfl, hb1.trans (Below.refl _ _).drew⟩
end Go.Proofs.Ythmcedfkfoagdaa
