/-
  impl.levelOk, impl.runAt.
-/
import Derived.Test.YtlejfkjanllgbaaDoorRunRd
import Derived.Test.YtlejfkjanllgbaaDoorBlkKit
import Derived.Deep.RegionWith
namespace Go.Proofs.YtlejfkjanllgbaaDoor
open Go.RowKit
set_option linter.unusedVariables false
set_option maxRecDepth 20000

theorem levelOk_any (x : Int) (w : World) : Calls Tryd.prog 109 #[.int .i64 x] w fun e w' => e = .returned (.bool (decide (-5000 ≤ x) && decide (x ≤ 5000))) ∧ w' = w := by
  by_cases h1 : -5000 ≤ x
  · go_enter Tryd.func109, Tryd.ntmps109
    go_wp2
    all_goals go_ret
    all_goals exact ⟨by simp; omega, rfl⟩
  · go_enter Tryd.func109, Tryd.ntmps109
    go_wp2
    all_goals go_ret
    all_goals exact ⟨by simp; omega, rfl⟩

/-- What runAt answers. -/
def oneZ (r : Option (Nat × Int × Nat)) : Int := match r with | none => 0 | some (z, _, _) => (z : Int)
def oneX (r : Option (Nat × Int × Nat)) : Int := match r with | none => 0 | some (_, x, _) => x
def oneE (r : Option (Nat × Int × Nat)) : Int := match r with | none => 0 | some (_, _, e) => (e : Int)
def oneY (r : Option (Nat × Int × Nat)) : Bool := match r with | none => false | some _ => true

set_option maxHeartbeats 1600000 in
theorem runAt_any {s : ByteArray} {F : Nat → Option (Int × Nat)} (hF : IsCnt s F) (hr : rowOkB s = true) (p : Nat) (w : World) (hp : p ≤ s.size) :
    Calls Tryd.prog 97 #[.string s, .int .i64 (p : Int)] w fun e w' => e = .returned (.tuple #[.agg #[.int .i64 (oneZ (oneR F p)), .int .i64 (oneX (oneR F p))], .int .i64 (oneE (oneR F p)), .bool (oneY (oneR F p))]) ∧ Below w.heap.size w w' := by
  cases h1 : F p with
  | none =>
    rw [oneR_none h1]
    have CU : Hid (∀ w', Calls Tryd.prog 96 #[.int .i64 0, .string s, .int .i64 (p : Int)] w' (fun e w'' => e = .returned (.tuple #[.int .i64 0, .int .i64 0, .bool false]) ∧ w'' = w')) := fun w' => implUeF_no hF hr w' hp h1
    have b0 := Blk.new w #[.int .i64 0, .int .i64 0] 82
    have hb0 : Below w.heap.size w (w.alloc (.cells #[.int .i64 0, .int .i64 0] 82)) := (Below.refl _ _).alloc (Nat.le_refl _) _
    clear hF hr hp h1
    go_enter Tryd.func97, Tryd.ntmps97
    go_wp2_with (go_at_call 96; refine (CU.out _).mono ?_; rintro e w2 ⟨rfl, hw⟩; subst w2)
    refine bodyPost_ret (results_cell_two rfl _ _ w.heap.size 82 _ (0, 0) _ rfl (Blk.new _ _ _) Tryd.underlying82 rfl (by kernel_rfl)) rfl ?_
    exact ⟨rfl, (Below.refl _ _).alloc (Nat.le_refl _) _⟩
  | some r1 =>
    obtain ⟨z, q1⟩ := r1
    obtain ⟨z0, z1, hq1⟩ := hF.bd hr h1
    have CU : Hid (∀ w', Calls Tryd.prog 96 #[.int .i64 0, .string s, .int .i64 (p : Int)] w' (fun e w'' => e = .returned (.tuple #[.int .i64 z, .int .i64 (q1 : Int), .bool true]) ∧ w'' = w')) := fun w' => implUeF hF hr w' h1
    cases h2 : F q1 with
    | none =>
      rw [oneR_second h1 h2]
      have CS : Hid (∀ w', Calls Tryd.prog 96 #[.int .i64 1, .string s, .int .i64 (q1 : Int)] w' (fun e w'' => e = .returned (.tuple #[.int .i64 0, .int .i64 0, .bool false]) ∧ w'' = w')) := fun w' => implSeF_no hF hr w' hq1 h2
      have b0 := Blk.new w #[.int .i64 0, .int .i64 0] 82
      clear hF hr hp h1 h2
      go_enter Tryd.func97, Tryd.ntmps97
      go_wp2_with (first
        | (go_at_call_of 96 (Value.int IntKind.i64 0); refine (CU.out _).mono ?_; rintro e w2 ⟨rfl, hw⟩; subst w2)
        | (go_at_call_of 96 (Value.int IntKind.i64 1); refine (CS.out _).mono ?_; rintro e w2 ⟨rfl, hw⟩; subst w2))
      refine bodyPost_ret (results_cell_two rfl _ _ w.heap.size 82 _ (0, 0) _ rfl (Blk.new _ _ _) Tryd.underlying82 rfl (by kernel_rfl)) rfl ?_
      exact ⟨rfl, (Below.refl _ _).alloc (Nat.le_refl _) _⟩
    | some r2 =>
      obtain ⟨u, e2⟩ := r2
      have CS0 : ∀ w', Calls Tryd.prog 96 #[.int .i64 1, .string s, .int .i64 (q1 : Int)] w' (fun e w'' => e = .returned (.tuple #[.int .i64 (seO u), .int .i64 (e2 : Int), .bool true]) ∧ w'' = w') := fun w' => implSeF hF hr w' h2
      obtain ⟨x, hx⟩ : ∃ x, seO u = x := ⟨_, rfl⟩
      have CL := levelOk_any x
      cases hlv : levB x with
      | false =>
        rw [oneR_bad h1 h2 (by rw [hx]; exact hlv)]
        rw [hx] at CS0
        have CS : Hid (∀ w', Calls Tryd.prog 96 #[.int .i64 1, .string s, .int .i64 (q1 : Int)] w' (fun e w'' => e = .returned (.tuple #[.int .i64 x, .int .i64 (e2 : Int), .bool true]) ∧ w'' = w')) := CS0
        have b0 := Blk.new w #[.int .i64 0, .int .i64 0] 82
        unfold levB at hlv
        clear h1 h2 hx CS0 hF hr hp
        by_cases hx0 : x = 0
        · subst hx0
          clear CL hlv
          go_enter Tryd.func97, Tryd.ntmps97
          go_wp2_with (first
            | (go_at_call_of 96 (Value.int IntKind.i64 0); refine (CU.out _).mono ?_; rintro e w2 ⟨rfl, hw⟩; subst w2)
            | (go_at_call_of 96 (Value.int IntKind.i64 1); refine (CS.out _).mono ?_; rintro e w2 ⟨rfl, hw⟩; subst w2))
          refine bodyPost_ret (results_cell_two rfl _ _ w.heap.size 82 _ (0, 0) _ rfl (Blk.new _ _ _) Tryd.underlying82 rfl (by kernel_rfl)) rfl ?_
          exact ⟨rfl, (Below.refl _ _).alloc (Nat.le_refl _) _⟩
        · have e9 : (decide (-5000 ≤ x) && decide (x ≤ 5000)) = false := by
            rw [decide_eq_false hx0, Bool.not_false, Bool.true_and] at hlv
            exact hlv
          rw [e9] at CL
          have HL : Hid (∀ w', Calls Tryd.prog 109 #[.int .i64 x] w' (fun e w'' => e = .returned (.bool false) ∧ w'' = w')) := CL
          clear CL hlv e9
          go_enter Tryd.func97, Tryd.ntmps97
          go_wp2_with (first
            | (go_at_call_of 96 (Value.int IntKind.i64 0); refine (CU.out _).mono ?_; rintro e w2 ⟨rfl, hw⟩; subst w2)
            | (go_at_call_of 96 (Value.int IntKind.i64 1); refine (CS.out _).mono ?_; rintro e w2 ⟨rfl, hw⟩; subst w2)
            | (go_at_call 109; refine (HL.out _).mono ?_; rintro e w2 ⟨rfl, hw⟩; subst w2))
          refine bodyPost_ret (results_cell_two rfl _ _ w.heap.size 82 _ (0, 0) _ rfl (Blk.new _ _ _) Tryd.underlying82 rfl (by kernel_rfl)) rfl ?_
          exact ⟨rfl, (Below.refl _ _).alloc (Nat.le_refl _) _⟩
      | true =>
        have hR := oneR_some h1 h2 (by rw [hx]; exact hlv)
        rw [hR, hx, show oneZ (some (z.toNat, x, e2)) = z from by show ((z.toNat : Nat) : Int) = z; omega]
        rw [hx] at CS0
        have CS : Hid (∀ w', Calls Tryd.prog 96 #[.int .i64 1, .string s, .int .i64 (q1 : Int)] w' (fun e w'' => e = .returned (.tuple #[.int .i64 x, .int .i64 (e2 : Int), .bool true]) ∧ w'' = w')) := CS0
        have b0 := Blk.new w #[.int .i64 0, .int .i64 0] 82
        unfold levB at hlv
        obtain ⟨y1, y2⟩ : (!decide (x = 0)) = true ∧ (decide (-5000 ≤ x) && decide (x ≤ 5000)) = true := by simpa using hlv
        have hx0 : ¬ x = 0 := by simpa using y1
        rw [y2] at CL
        have HL : Hid (∀ w', Calls Tryd.prog 109 #[.int .i64 x] w' (fun e w'' => e = .returned (.bool true) ∧ w'' = w')) := CL
        clear h1 h2 hx CS0 hF hr hp CL hlv y1 y2 hR
        go_enter Tryd.func97, Tryd.ntmps97
        go_wp2_with (first
          | (go_at_call_of 96 (Value.int IntKind.i64 0); refine (CU.out _).mono ?_; rintro e w2 ⟨rfl, hw⟩; subst w2)
          | (go_at_call_of 96 (Value.int IntKind.i64 1); refine (CS.out _).mono ?_; rintro e w2 ⟨rfl, hw⟩; subst w2)
          | (go_at_call 109; refine (HL.out _).mono ?_; rintro e w2 ⟨rfl, hw⟩; subst w2))
        refine bodyPost_ret (results_cell_two rfl _ _ w.heap.size 82 _ (0, 0) _ rfl (Blk.new _ _ _) Tryd.underlying82 rfl (by kernel_rfl)) rfl ?_
        exact ⟨rfl, (Below.refl _ _).alloc (Nat.le_refl _) _⟩
end Go.Proofs.YtlejfkjanllgbaaDoor
