/-
  The walks of laws.FnExactRunsRow.
-/
import Derived.Test.YtknfcfbioabdnaaRunTops
namespace Go.Proofs.Ytknfcfbioabdnaa
open Go.RowKit
set_option linter.unusedVariables false
set_option maxRecDepth 20000

set_option maxHeartbeats 800000 in
theorem fnExactRunsRow_walk (a : Option Addr) (cap : Nat) (xs : List Int) (w : World) (h : Ints w a xs) (hl : xs.length ≤ maxLen) :
    Calls Try.prog 8 #[.slice a xs.length cap] w fun e w' => e = .returned (.bool true) ∧ Below w.heap.size w w' := by
  have hl' := hl
  unfold maxLen at hl'
  by_cases k1 : 1048576 < xs.length
  · go_enter Try.func8, Try.ntmps8
    go_wp2
    go_ret
    exact ⟨rfl, Below.refl _ _⟩
  have j1 : xs.length ≤ 1048576 := by omega
  have CT : Hid (∀ w', Below w.heap.size w w' → Calls Try.prog 24 #[.slice a xs.length cap] w' (fun e w'' => (∃ p c, e = .returned (.slice p xs.length c) ∧ Ints w'' p xs) ∧ Below w'.heap.size w' w'')) := fun w' hb => by
    refine (toIntS_any a cap xs w' (h.below hb (Nat.le_refl _)) j1).mono ?_
    rintro e w'' ⟨v, rfl, ho, hc⟩
    obtain ⟨p, c, rfl, i, _⟩ := ints_of_owns ho
    exact ⟨⟨p, c, rfl, i⟩, hc⟩
  have CS : Hid (∀ (p : Option Addr) (c : Nat) w', Ints w' p xs → Calls Try.prog 29 #[.slice p xs.length c] w' (fun e w'' => e = .returned (.tuple #[.string (rnS xs), .bool (rnOk xs)]) ∧ Below w'.heap.size w' w'')) := fun p c w' hi => specRunsRow p c xs w' hi hl
  have CI : Hid (∀ (p : Option Addr) (c : Nat) w', Ints w' p xs → Calls Try.prog 19 #[.slice p xs.length c] w' (fun e w'' => e = .returned (.tuple #[.string (rnS xs), .bool (rnOk xs)]) ∧ Below w'.heap.size w' w'')) := fun p c w' hi => implRunsRow p c xs w' hi hl
  generalize rnS xs = T at *
  generalize rnOk xs = y at *
  have nxs : (xs.length : Int) ≤ 1048576 := by omega
  clear h k1
  go_enter Try.func8, Try.ntmps8
  go_wp2_with fail
  refine (CT.out w (Below.refl _ _)).mono ?_
  rintro e w1 ⟨⟨p1, c1, rfl, i1⟩, hb1⟩
  go_wp2_with fail
  refine (CS.out p1 c1 w1 i1).mono ?_
  rintro e w2 ⟨rfl, hc⟩
  have hb2 := hb1.trans (hc.mono hb1.size)
  clear hc hb1 i1
  go_wp2_with fail
  refine (CT.out w2 hb2).mono ?_
  rintro e w3 ⟨⟨p3, c3, rfl, i3⟩, hc⟩
  have hb3 := hb2.trans (hc.mono hb2.size)
  clear hc hb2
  go_wp2_with fail
  refine (CI.out p3 c3 w3 i3).mono ?_
  rintro e w4 ⟨rfl, hc4⟩
  have hb4 := hb3.trans (hc4.mono hb3.size)
  have I3 : Hid (∀ w', Below w3.heap.size w3 w' → Ints w' p3 xs) := fun w' hb => i3.below hb (Nat.le_refl _)
  clear hb3 i3
  go_wp2_with fail
  refine (CT.out w4 hb4).mono ?_
  rintro e w5 ⟨⟨p5, c5, rfl, i5⟩, hc⟩
  have hb5 := hb4.trans (hc.mono hb4.size)
  have hc5 := hc4.trans (hc.mono hc4.size)
  clear hc hb4 hc4
  go_wp2_with fail
  refine (eqIntS_any _ _ _ _ xs w5 (I3.out w5 hc5) i5 (by omega)).mono ?_
  rintro e w6 ⟨rfl, hc⟩
  go_wp2
  go_ret
  exact ⟨rfl, hb5.trans (hc.mono hb5.size)⟩
end Go.Proofs.Ytknfcfbioabdnaa
