/-
  The walk of laws.FnExactApart.
-/
import Derived.Test.YtpodpfdbklffgaaApartKit
namespace Go.Proofs.Ytpodpfdbklffgaa
open Go.RowKit
set_option linter.unusedVariables false
set_option maxRecDepth 20000

set_option maxHeartbeats 1600000 in
theorem fnExactApart_walk (W H : Int) (s : ByteArray) (W' H' : Int) (s' : ByteArray) (w : World) (hs : s.size ≤ maxLen) (hs' : s'.size ≤ maxLen) :
    Calls Try.prog 11 #[picV W H s, picV W' H' s'] w fun e w' => e = .returned (.bool true) ∧ Below w.heap.size w w' := by
  generalize hB : apartF W H s W' H' s' = B
  have CS : Hid (∀ w', Calls Try.prog 35 #[picV W H s, picV W' H' s'] w' (fun e w'' => e = .returned (.int .i64 B) ∧ Below w'.heap.size w' w'')) := fun w' => by rw [← hB]; exact specApart W H s W' H' s' w'
  have CI : Hid (∀ w', Calls Try.prog 18 #[picV W H s, picV W' H' s'] w' (fun e w'' => e = .returned (.int .i64 B) ∧ Below w'.heap.size w' w'')) := fun w' => by rw [← hB]; exact implApart W H s W' H' s' w'
  clear hB
  go_enter Try.func11, Try.ntmps11
  go_wp2_with fail
  generalize hW : World.alloc w _ = V
  have B0 : Blk V w.heap.size #[.int .i64 W, .int .i64 H, .string s] 40 := by rw [← hW]; exact Blk.new w _ _
  have hs0 : V.heap.size = w.heap.size + 1 := by rw [← hW]; simp
  have hb0 : Below w.heap.size w V := by rw [← hW]; exact (Below.refl _ _).alloc (Nat.le_refl _) _
  clear hW
  generalize hX : World.alloc V _ = X
  have A1 : Blk X w.heap.size #[.int .i64 W, .int .i64 H, .string s] 40 := by rw [← hX]; exact B0.alloc _
  have B1 : Blk X (w.heap.size + 1) #[.int .i64 W', .int .i64 H', .string s'] 40 := by rw [← hX, ← hs0]; exact Blk.new V _ _
  have hb1 : Below w.heap.size w X := by rw [← hX]; exact hb0.alloc hb0.size _
  clear hX hb0 B0 hs0
  have BK : Hid (∀ w', Below X.heap.size X w' → TwoIn w' w.heap.size (w.heap.size + 1) W H s W' H' s') := fun w' h => ⟨(A1.below h A1.lt).three.1, (B1.below h B1.lt).three.1⟩
  clear A1 B1
  refine (szPic_any W H s 1048576 X hs (by decide) (by decide)).mono ?_
  rintro e w1 ⟨rfl | ⟨r, rfl, r0, r1, r2⟩, hc⟩
  · have hb2 := hb1.trans (hc.mono hb1.size)
    go_wp2
    go_ret
    exact ⟨rfl, hb2⟩
  obtain ⟨⟨x0, x1, x2⟩, y0, y1, y2⟩ := BK.out w1 hc
  go_wp2_with fail
  refine (szPic_any W' H' s' r w1 hs' r0 r1).mono ?_
  rintro e w2 ⟨rfl | ⟨r', rfl, r0', r1', r2'⟩, hc'⟩
  · have hb2 := hb1.trans ((hc.trans (hc'.mono hc.size)).mono hb1.size)
    go_wp2
    go_ret
    exact ⟨rfl, hb2⟩
  have hc2 := hc.trans (hc'.mono hc.size)
  clear hc hc' x0 x1 x2 y0 y1 y2
  obtain ⟨⟨x0, x1, x2⟩, y0, y1, y2⟩ := BK.out w2 hc2
  go_wp2_with fail
  go_region_held3 (fun w' => (w'.cell? ⟨w.heap.size, 0, none⟩ = some (.int .i64 W) ∧ w'.cell? ⟨w.heap.size, 1, none⟩ = some (.int .i64 H) ∧ w'.cell? ⟨w.heap.size, 2, none⟩ = some (.string s)) ∧
      (w'.cell? ⟨w.heap.size + 1, 0, none⟩ = some (.int .i64 W') ∧ w'.cell? ⟨w.heap.size + 1, 1, none⟩ = some (.int .i64 H') ∧ w'.cell? ⟨w.heap.size + 1, 2, none⟩ = some (.string s')))
    (first | go_keep | with_reducible exact BK.out _ hc5 | with_reducible exact BK.out _ hc4 | with_reducible exact BK.out _ hc3)
    (first
      | (have hx := hc4; go_at_call 35; refine (CS.out _).mono ?_; rintro e w5 ⟨rfl, hr⟩; have hc5 := hc4.trans (hr.mono hc4.size); clear hr)
      | (have hx := hc3; go_at_call 24; refine (toPic_any _ _ _ _).mono ?_; rintro e w4 ⟨rfl, hr⟩; have hc4 := hc3.trans (hr.mono hc3.size); clear hr)
      | (go_at_call 24; refine (toPic_any _ _ _ _).mono ?_; rintro e w3 ⟨rfl, hr⟩; have hc3 := hc2.drew.trans (hr.mono hc2.drew.size); clear hr))
  clear x0 x1 x2 y0 y1 y2 hc2 hc3 hc4
  obtain ⟨⟨x0, x1, x2⟩, y0, y1, y2⟩ := BK.out w5 hc5
  go_wp2_with fail
  go_region_held3 (fun w' => (w'.cell? ⟨w.heap.size, 0, none⟩ = some (.int .i64 W) ∧ w'.cell? ⟨w.heap.size, 1, none⟩ = some (.int .i64 H) ∧ w'.cell? ⟨w.heap.size, 2, none⟩ = some (.string s)) ∧
      (w'.cell? ⟨w.heap.size + 1, 0, none⟩ = some (.int .i64 W') ∧ w'.cell? ⟨w.heap.size + 1, 1, none⟩ = some (.int .i64 H') ∧ w'.cell? ⟨w.heap.size + 1, 2, none⟩ = some (.string s')))
    (first | go_keep | with_reducible exact BK.out _ hc8 | with_reducible exact BK.out _ hc7 | with_reducible exact BK.out _ hc6)
    (first
      | (have hx := hc7; go_at_call 18; refine (CI.out _).mono ?_; rintro e w8 ⟨rfl, hr⟩; have hc8 := hc7.trans (hr.mono hc7.size); clear hr)
      | (have hx := hc6; go_at_call 24; refine (toPic_any _ _ _ _).mono ?_; rintro e w7 ⟨rfl, hr⟩; have hc7 := hc6.trans (hr.mono hc6.size); clear hr)
      | (go_at_call 24; refine (toPic_any _ _ _ _).mono ?_; rintro e w6 ⟨rfl, hr⟩; have hc6 := hc5.drew.trans (hr.mono hc5.drew.size); clear hr))
  have hb8 := hb1.trans (hc8.mono hb1.size)
  go_wp2
  go_ret
  exact ⟨rfl, hb8⟩
end Go.Proofs.Ytpodpfdbklffgaa
