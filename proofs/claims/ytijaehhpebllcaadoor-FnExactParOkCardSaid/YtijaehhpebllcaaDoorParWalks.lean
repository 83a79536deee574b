/-
  The walks of laws.FnExactParOk and laws.FnExactParRow.
-/
import Derived.Test.YtijaehhpebllcaaDoorParKit
namespace Go.Proofs.YtijaehhpebllcaaDoor
open Go.RowKit
set_option linter.unusedVariables false
set_option maxRecDepth 20000

set_option maxHeartbeats 1600000 in
theorem fnExactParOk_walk (q : Int) (g x c : Bool) (w : World) (hE : ErrT w) (wq : (Lit.int .i64 q).wf = true) :
    Calls Tryd.prog 5 #[.agg #[.int .i64 q, .bool g, .bool x, .bool c]] w fun e w' => e = .returned (.bool true) ∧ Below w.heap.size w w' := by
  have E : Hid (ErrT w) := hE
  clear hE wq
  have cs : Hid (∀ w', Calls Tryd.prog 23 #[.agg #[.int .i64 q, .bool g, .bool x, .bool c]] w' fun e w'' => e = .returned (.bool (parB q g x)) ∧ Below w'.heap.size w' w'') := fun w' => specParOk q g x c w'
  have ci : Hid (∀ w', ErrT w' → Calls Tryd.prog 25 #[.agg #[.int .i64 q, .bool g, .bool x, .bool c]] w' fun e w'' => e = .returned (.bool (parB q g x)) ∧ Below w'.heap.size w' w'') := fun w' h => implParOk q g x c w' h
  generalize parB q g x = r at *
  go_enter Tryd.func5, Tryd.ntmps5
  go_wp2_with fail
  generalize hW : World.alloc w _ = W
  have B0 : Blk W w.heap.size #[.int .i64 q, .bool g, .bool x, .bool c] 47 := by rw [← hW]; exact Blk.new w _ _
  have hb0 : Below w.heap.size w W := by rw [← hW]; exact (Below.refl _ _).alloc (Nat.le_refl _) _
  clear hW
  refine (toPar_any _ _ _ _ W).mono ?_
  rintro e w1 ⟨rfl, hc⟩
  have hb1 := hb0.trans (hc.mono hb0.size)
  have B1 := B0.below hc B0.lt
  clear hc hb0 B0
  go_wp2_with fail
  refine (cs.out w1).mono ?_
  rintro e w2 ⟨rfl, hc⟩
  have hb2 := hb1.trans (hc.mono hb1.size)
  have B2 := B1.below hc B1.lt
  clear hc hb1 B1
  obtain ⟨⟨x0, x1, x2, x3⟩, _⟩ := B2.four
  go_wp2_with fail
  refine (toPar_any _ _ _ _ w2).mono ?_
  rintro e w3 ⟨rfl, hc⟩
  have hb3 := hb2.trans (hc.mono hb2.size)
  clear hc hb2 B2
  go_wp2_with fail
  refine (ci.out w3 (E.out.below hb3 (Nat.le_refl _))).mono ?_
  rintro e w4 ⟨rfl, hc⟩
  have hb4 := hb3.trans (hc.mono hb3.size)
  clear hc hb3
  go_wp2
  all_goals go_ret
  all_goals exact ⟨by simp, hb4⟩

set_option maxHeartbeats 1600000 in
theorem fnExactParRow_walk (q : Int) (g x c : Bool) (w : World) (hE : ErrT w) (wq : (Lit.int .i64 q).wf = true) :
    Calls Tryd.prog 8 #[.agg #[.int .i64 q, .bool g, .bool x, .bool c]] w fun e w' => e = .returned (.bool true) ∧ Below w.heap.size w w' := by
  have E : Hid (ErrT w) := hE
  clear hE wq
  obtain ⟨t, b, cs, ci⟩ : ∃ t b, Hid (∀ w', Calls Tryd.prog 30 #[.agg #[.int .i64 q, .bool g, .bool x, .bool c]] w' fun e w'' => e = .returned (.tuple #[.string t, .bool b]) ∧ Below w'.heap.size w' w'') ∧
      Hid (∀ w', ErrT w' → Calls Tryd.prog 14 #[.agg #[.int .i64 q, .bool g, .bool x, .bool c]] w' fun e w'' => e = .returned (.tuple #[.string t, .bool b]) ∧ Below w'.heap.size w' w'') := by
    cases hp : parB q g x with
    | false => exact ⟨⟨#[]⟩, false, fun w' => by have := specParRow q g x c w'; rwa [hp, if_neg (by simp)] at this, fun w' h => implParRow_no q g x c w' h hp⟩
    | true => exact ⟨parS q g x c, true, fun w' => by have := specParRow q g x c w'; rwa [hp, if_pos rfl] at this, fun w' h => implParRow q g x c w' h hp⟩
  go_enter Tryd.func8, Tryd.ntmps8
  go_wp2_with fail
  generalize hW : World.alloc w _ = W
  have B0 : Blk W w.heap.size #[.int .i64 q, .bool g, .bool x, .bool c] 47 := by rw [← hW]; exact Blk.new w _ _
  have hb0 : Below w.heap.size w W := by rw [← hW]; exact (Below.refl _ _).alloc (Nat.le_refl _) _
  clear hW
  refine (toPar_any _ _ _ _ W).mono ?_
  rintro e w1 ⟨rfl, hc⟩
  have hb1 := hb0.trans (hc.mono hb0.size)
  have B1 := B0.below hc B0.lt
  clear hc hb0 B0
  go_wp2_with fail
  refine (cs.out w1).mono ?_
  rintro e w2 ⟨rfl, hc⟩
  have hb2 := hb1.trans (hc.mono hb1.size)
  have B2 := B1.below hc B1.lt
  clear hc hb1 B1
  obtain ⟨⟨x0, x1, x2, x3⟩, _⟩ := B2.four
  go_wp2_with fail
  refine (toPar_any _ _ _ _ w2).mono ?_
  rintro e w3 ⟨rfl, hc⟩
  have hb3 := hb2.trans (hc.mono hb2.size)
  clear hc hb2 B2
  go_wp2_with fail
  refine (ci.out w3 (E.out.below hb3 (Nat.le_refl _))).mono ?_
  rintro e w4 ⟨rfl, hc⟩
  have hb4 := hb3.trans (hc.mono hb3.size)
  clear hc hb3
  go_wp2
  all_goals go_ret
  all_goals exact ⟨by simp, hb4⟩
end Go.Proofs.YtijaehhpebllcaaDoor
