/-
  The walk of laws.FnExactCondOk.
-/
import Derived.Test.YtlejfkjanllgbaaCondKit
namespace Go.Proofs.Ytlejfkjanllgbaa
open Go.RowKit
set_option linter.unusedVariables false
set_option maxRecDepth 20000

set_option maxHeartbeats 800000 in
theorem fnExactCondOk_walk (k : Bool) (q : Int) (g x : Bool) (w : World) :
    Calls Try.prog 4 #[conV k q g x] w fun e w' => e = .returned (.bool true) ∧ Below w.heap.size w w' := by
  go_enter Try.func4, Try.ntmps4
  go_wp2_with fail
  have B0 := Blk.new w #[.bool k, .int .i64 q, .bool g, .bool x] 29
  have hb0 := (Below.refl w.heap.size w).alloc (Nat.le_refl _) (.cells #[.bool k, .int .i64 q, .bool g, .bool x] 29)
  generalize World.alloc w _ = W at *
  refine (toCond_any k q g x W).mono ?_
  rintro e w1 ⟨rfl, hc⟩
  have hb1 := hb0.trans (hc.mono hb0.size)
  have B1 := B0.below hc B0.lt
  clear hc hb0 B0
  go_wp2_with fail
  refine (specCondOk k q g x w1).mono ?_
  rintro e w2 ⟨rfl, hc⟩
  have hb2 := hb1.trans (hc.mono hb1.size)
  have B2 := B1.below hc B1.lt
  clear hc hb1 B1
  obtain ⟨⟨x0, x1, x2, x3⟩, _⟩ := B2.four
  generalize hpb : parB q g x = P
  go_wp2_with fail
  refine (toCond_any k q g x w2).mono ?_
  rintro e w3 ⟨rfl, hc⟩
  have hb3 := hb2.trans (hc.mono hb2.size)
  clear hc hb2 B2 x0 x1 x2 x3
  go_wp2_with fail
  refine (implCondOk k q g x w3).mono ?_
  rintro e w4 ⟨rfl, hc⟩
  have hb4 := hb3.trans (hc.mono hb3.size)
  rw [hpb]
  cases P
  all_goals
    go_wp2
    go_ret
    exact ⟨rfl, hb4⟩
end Go.Proofs.Ytlejfkjanllgbaa
