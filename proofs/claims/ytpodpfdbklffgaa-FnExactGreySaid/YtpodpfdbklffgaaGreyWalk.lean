/-
  The walk of laws.FnExactGrey.
-/
import Derived.Test.YtpodpfdbklffgaaGreyKit
namespace Go.Proofs.Ytpodpfdbklffgaa
open Go.RowKit
set_option linter.unusedVariables false
set_option maxRecDepth 20000

set_option maxHeartbeats 1600000 in
theorem fnExactGrey_walk (W H : Int) (w : World) :
    Calls Try.prog 6 #[.int .i64 W, .int .i64 H] w fun e w' => e = .returned (.bool true) ∧ Below w.heap.size w w' := by
  obtain ⟨a, b, t, hG⟩ : ∃ a b t, greyV W H = picV a b t := by
    unfold greyV
    split
    · exact ⟨_, _, _, rfl⟩
    · exact ⟨_, _, _, rfl⟩
  have CS : Hid (∀ w', Calls Try.prog 25 #[.int .i64 W, .int .i64 H] w' (fun e w'' => e = .returned (picV a b t) ∧ Below w'.heap.size w' w'')) := fun w' => by rw [← hG]; exact specGrey W H w'
  have CI : Hid (∀ w', Calls Try.prog 19 #[.int .i64 W, .int .i64 H] w' (fun e w'' => e = .returned (picV a b t) ∧ Below w'.heap.size w' w'')) := fun w' => by rw [← hG]; exact implGrey W H w'
  clear hG
  go_enter Try.func6, Try.ntmps6
  go_wp2_with fail
  refine (CS.out w).mono ?_
  rintro e w1 ⟨rfl, hb1⟩
  go_wp2_with fail
  generalize hW : World.alloc w1 _ = V
  have B0 : Blk V w1.heap.size #[.int .i64 a, .int .i64 b, .string t] 25 := by rw [← hW]; exact Blk.new w1 _ _
  have hb2 : Below w.heap.size w V := by rw [← hW]; exact hb1.alloc hb1.size _
  clear hW hb1
  refine (CI.out V).mono ?_
  rintro e w3 ⟨rfl, hc⟩
  have B3 := B0.below hc B0.lt
  have hb3 := hb2.trans (hc.mono hb2.size)
  clear hc hb2 B0
  obtain ⟨⟨x0, x1, x2⟩, _⟩ := B3.three
  have hlt := B3.lt
  go_wp2_with (go_at_call 26; refine (eqPic_any _ _ _ _).mono ?_; rintro e w4 ⟨rfl, hc4⟩)
  go_ret
  exact ⟨rfl, (hb3.alloc hb3.size _).trans (hc4.mono (by have := hb3.size; simp; omega))⟩
end Go.Proofs.Ytpodpfdbklffgaa
