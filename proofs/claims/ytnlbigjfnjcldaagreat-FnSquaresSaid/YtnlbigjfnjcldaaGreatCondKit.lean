/-
  Conditions: the walks of impl.CondOk, spec.CondOk and laws.toCond.
-/
import Derived.Test.YtnlbigjfnjcldaaGreatSetMath
import Derived.Test.YtnlbigjfnjcldaaGreatBlkKit
import Derived.Test.YtnlbigjfnjcldaaGreatInKit
namespace Go.Proofs.YtnlbigjfnjcldaaGreat
open Go.RowKit
set_option linter.unusedVariables false
set_option maxRecDepth 20000

/-- A condition as it lies in memory. -/
abbrev conV (k : Bool) (q : Int) (g x : Bool) : Value := .agg #[.bool k, .int .i64 q, .bool g, .bool x]

set_option maxHeartbeats 400000 in
theorem stepAt_one (qp : Int) (w : World) : Calls Tryz.prog 51 #[.int .i64 qp] w fun e w' => (∃ s, e = .returned (.tuple #[.int .i64 s, .bool (decide (0 ≤ qp) && decide (qp ≤ 40))])) ∧ w' = w := by
  by_cases h1 : qp < 0
  · rw [show (decide (0 ≤ qp) && decide (qp ≤ 40)) = false by simp; omega]
    go_enter Tryz.func51, Tryz.ntmps51
    go_wp2
    go_ret2
    exact ⟨⟨0, rfl⟩, rfl⟩
  by_cases h2 : 40 < qp
  · rw [show (decide (0 ≤ qp) && decide (qp ≤ 40)) = false by simp; omega]
    go_enter Tryz.func51, Tryz.ntmps51
    go_wp2
    go_ret2
    exact ⟨⟨0, rfl⟩, rfl⟩
  rw [show (decide (0 ≤ qp) && decide (qp ≤ 40)) = true by simp; omega]
  go_enter Tryz.func51, Tryz.ntmps51
  go_wp2
  go_ret2
  exact ⟨⟨qp, rfl⟩, rfl⟩

set_option maxHeartbeats 800000 in
theorem implCondOk (k : Bool) (q : Int) (g x : Bool) (w : World) :
    Calls Tryz.prog 30 #[conV k q g x] w fun e w' => e = .returned (.bool (parB q g x)) ∧ Below w.heap.size w w' := by
  have hbA := (Below.refl w.heap.size w).alloc (Nat.le_refl _) (.cells #[.bool k, .int .i64 q, .bool g, .bool x] 26)
  have CS : Hid (∀ w', Calls Tryz.prog 51 #[.int .i64 q] w' fun e w'' => (∃ s, e = .returned (.tuple #[.int .i64 s, .bool (decide (0 ≤ q) && decide (q ≤ 40))])) ∧ w'' = w') := fun w' => stepAt_one q w'
  have HV : Hid (parB q g x = ((decide (0 ≤ q) && decide (q ≤ 40)) && !(g && x))) := rfl
  generalize (decide (0 ≤ q) && decide (q ≤ 40)) = y at *
  cases y
  case false =>
    go_enter Tryz.func30, Tryz.ntmps30
    go_wp2_with (go_at_call 51; refine (CS.out _).mono ?_; rintro e w2 ⟨⟨s, rfl⟩, hw⟩; subst w2)
    go_ret
    exact ⟨by rw [HV.out]; rfl, hbA⟩
  case true =>
    cases g <;> cases x
    all_goals
      go_enter Tryz.func30, Tryz.ntmps30
      go_wp2_with (go_at_call 51; refine (CS.out _).mono ?_; rintro e w2 ⟨⟨s, rfl⟩, hw⟩; subst w2)
      go_ret
      exact ⟨by rw [HV.out]; rfl, hbA⟩

set_option maxHeartbeats 800000 in
theorem specCondOk (k : Bool) (q : Int) (g x : Bool) (w : World) :
    Calls Tryz.prog 38 #[conV k q g x] w fun e w' => e = .returned (.bool (parB q g x)) ∧ Below w.heap.size w w' := by
  have hbA := (Below.refl w.heap.size w).alloc (Nat.le_refl _) (.cells #[.bool k, .int .i64 q, .bool g, .bool x] 26)
  have CI : Hid (∀ w', Calls Tryz.prog 43 #[.int .i64 q, .int .i64 0, .int .i64 40] w' (fun e w'' => e = .returned (.bool (decide (0 ≤ q) && decide (q ≤ 40))) ∧ w'' = w')) := fun w' => in_any q 0 40 w'
  have HV : Hid (parB q g x = ((decide (0 ≤ q) && decide (q ≤ 40)) && !(g && x))) := rfl
  generalize (decide (0 ≤ q) && decide (q ≤ 40)) = y at *
  cases y
  case false =>
    go_enter Tryz.func38, Tryz.ntmps38
    go_wp2_with (go_at_call 43; refine (CI.out _).mono ?_; rintro e w2 ⟨rfl, hw⟩; subst w2)
    go_ret
    exact ⟨by rw [HV.out]; rfl, hbA⟩
  case true =>
    cases g <;> cases x
    all_goals
      go_enter Tryz.func38, Tryz.ntmps38
      go_wp2_with (go_at_call 43; refine (CI.out _).mono ?_; rintro e w2 ⟨rfl, hw⟩; subst w2)
      go_ret
      exact ⟨by rw [HV.out]; rfl, hbA⟩

set_option maxHeartbeats 800000 in
theorem toCond_any (k : Bool) (q : Int) (g x : Bool) (w : World) :
    Calls Tryz.prog 18 #[conV k q g x] w fun e w' => e = .returned (conV k q g x) ∧ Below w.heap.size w w' := by
  go_enter Tryz.func18, Tryz.ntmps18
  go_wp2
  (try simp only [Exit.inBlock, Exit.then])
  refine bodyPost_ret (results_cell_row rfl _ _ (w.heap.size + 1) 26 _ (0, 0) _ rfl ((Blk.new' _ _ (by simp)).alloc _) Tryz.underlying26 rfl (by kernel_rfl)) rfl ?_
  exact ⟨rfl, by go_grown⟩
end Go.Proofs.YtnlbigjfnjcldaaGreat
