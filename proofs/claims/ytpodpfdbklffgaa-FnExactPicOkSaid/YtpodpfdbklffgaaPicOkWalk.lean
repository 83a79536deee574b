/-
  The walk of laws.FnExactPicOk.
-/
import Derived.Test.YtpodpfdbklffgaaPicKit
namespace Go.Proofs.Ytpodpfdbklffgaa
open Go.RowKit
set_option linter.unusedVariables false
set_option maxRecDepth 20000

set_option maxHeartbeats 1600000 in
theorem fnExactPicOk_walk (W H : Int) (s : ByteArray) (w : World) (hs : s.size ≤ maxLen) :
    Calls Try.prog 5 #[picV W H s] w fun e w' => e = .returned (.bool true) ∧ Below w.heap.size w w' := by
  generalize hB : picB W H s = B
  have CS : Hid (∀ w', Calls Try.prog 23 #[picV W H s] w' (fun e w'' => e = .returned (.bool B) ∧ Below w'.heap.size w' w'')) := fun w' => by rw [← hB]; exact specPicOk W H s w'
  have CI : Hid (∀ w', Calls Try.prog 21 #[picV W H s] w' (fun e w'' => e = .returned (.bool B) ∧ Below w'.heap.size w' w'')) := fun w' => by rw [← hB]; exact implPicOk W H s w'
  clear hB
  go_enter Try.func5, Try.ntmps5
  go_wp2_with fail
  generalize hW : World.alloc w _ = V
  have B0 : Blk V w.heap.size #[.int .i64 W, .int .i64 H, .string s] 40 := by rw [← hW]; exact Blk.new w _ _
  have hb0 : Below w.heap.size w V := by rw [← hW]; exact (Below.refl _ _).alloc (Nat.le_refl _) _
  clear hW
  refine (szPic_any W H s 1048576 V hs (by decide) (by decide)).mono ?_
  rintro e w1 ⟨rfl | ⟨r, rfl, r0, r1, r2⟩, hc⟩
  · have hb1 := hb0.trans (hc.mono hb0.size)
    go_wp2
    go_ret
    exact ⟨rfl, hb1⟩
  have hb1 := hb0.trans (hc.mono hb0.size)
  have B1 := B0.below hc B0.lt
  clear hc hb0 B0
  obtain ⟨⟨x0, x1, x2⟩, _⟩ := B1.three
  go_wp2_with fail
  refine (toPic_any W H s w1).mono ?_
  rintro e w2 ⟨rfl, hc⟩
  have hb2 := hb1.trans (hc.mono hb1.size)
  have B2 := B1.below hc B1.lt
  clear hc hb1 B1 x0 x1 x2
  obtain ⟨⟨x0, x1, x2⟩, _⟩ := B2.three
  go_wp2_with fail
  refine (CS.out w2).mono ?_
  rintro e w3 ⟨rfl, hc⟩
  have hb3 := hb2.trans (hc.mono hb2.size)
  have B3 := B2.below hc B2.lt
  clear hc hb2 B2 x0 x1 x2
  obtain ⟨⟨x0, x1, x2⟩, _⟩ := B3.three
  go_wp2_with fail
  refine (toPic_any W H s w3).mono ?_
  rintro e w4 ⟨rfl, hc⟩
  have hb4 := hb3.trans (hc.mono hb3.size)
  clear hc hb3 B3 x0 x1 x2
  go_wp2_with fail
  refine (CI.out w4).mono ?_
  rintro e w5 ⟨rfl, hc⟩
  have hb5 := hb4.trans (hc.mono hb4.size)
  clear hc hb4
  go_wp2
  go_ret
  exact ⟨rfl, hb5⟩
end Go.Proofs.Ytpodpfdbklffgaa
