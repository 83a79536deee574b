/-
  A picture that came in; the walks of laws.szPic, laws.toPic, laws.eqPic, laws.toRect; impl.PicOk and spec.PicOk.
-/
import Derived.Test.YthmcedfkfoagdaaPicMath
import Derived.Test.YthmcedfkfoagdaaInKit
import Derived.Test.YthmcedfkfoagdaaBlkKit
import Derived.Test.YthmcedfkfoagdaaIntsArg
import Derived.ProofKit
import Derived.OpenShut
import Derived.ChangeOld
import Derived.Lib.SmallJoins
import Derived.Below
namespace Go.Proofs.Ythmcedfkfoagdaa
open Go.ChangeShapes Go.WideShapes Go.ChangeAt Go.RowKit
set_option linter.unusedVariables false
set_option maxRecDepth 20000

abbrev picV (W H : Int) (s : ByteArray) : Value := .agg #[.int .i64 W, .int .i64 H, .string s]
abbrev rectW (l t w h : Int) : Value := .agg #[.int .i64 l, .int .i64 t, .int .i64 w, .int .i64 h]

set_option maxHeartbeats 400000 in
theorem szPic_any (W H : Int) (s : ByteArray) (L : Int) (w : World) (hs : s.size ≤ maxLen) (h0 : 0 ≤ L) (h1 : L ≤ 1048576) :
    Calls Try.prog 20 #[picV W H s, .int .i64 L] w fun e w' => (e = .returned (.int .i64 (-1)) ∨ ∃ r : Int, e = .returned (.int .i64 r) ∧ 0 ≤ r ∧ r ≤ 1048576 ∧ (s.size : Int) ≤ 1048576) ∧ Below w.heap.size w w' := by
  have hn' : (s.size : Int) ≤ 9223372036854775807 := by unfold maxLen at hs; omega
  by_cases h : L < (s.size : Int)
  · go_enter Try.func20, Try.ntmps20
    go_wp2
    go_ret
    exact ⟨.inl rfl, by go_grown⟩
  · go_enter Try.func20, Try.ntmps20
    go_wp2
    go_ret
    exact ⟨.inr ⟨L - s.size, rfl, by omega, by omega, by omega⟩, by go_grown⟩

set_option maxHeartbeats 800000 in
theorem toPic_any (W H : Int) (s : ByteArray) (w : World) :
    Calls Try.prog 22 #[picV W H s] w fun e w' => e = .returned (picV W H s) ∧ Below w.heap.size w w' := by
  go_enter Try.func22, Try.ntmps22
  go_wp2
  (try simp only [Exit.inBlock, Exit.then])
  refine bodyPost_ret (results_cell_row rfl _ _ (w.heap.size + 1) 40 _ (0, 0) _ rfl ((Blk.new' _ _ (by simp)).alloc _) Try.underlying40 rfl (by kernel_rfl)) rfl ?_
  exact ⟨rfl, by go_grown⟩

set_option maxHeartbeats 400000 in
theorem sideOk_any (n : Int) (w : World) : Calls Try.prog 73 #[.int .i64 n] w fun e w' => e = .returned (.bool (sideB n)) ∧ w' = w := by
  by_cases h1 : 1 ≤ n
  · go_enter Try.func73, Try.ntmps73
    go_wp2
    all_goals go_ret
    all_goals exact ⟨by simp [sideB]; omega, rfl⟩
  · go_enter Try.func73, Try.ntmps73
    go_wp2
    all_goals go_ret
    all_goals exact ⟨by simp [sideB]; omega, rfl⟩

set_option maxHeartbeats 800000 in
theorem implPicOk (W H : Int) (s : ByteArray) (w : World) :
    Calls Try.prog 53 #[picV W H s] w fun e w' => e = .returned (.bool (picB W H s)) ∧ Below w.heap.size w w' := by
  have C : Hid (∀ n w', Calls Try.prog 73 #[.int .i64 n] w' fun e w'' => e = .returned (.bool (sideB n)) ∧ w'' = w') := fun n w' => sideOk_any n w'
  unfold picB
  cases h1 : sideB W with
  | false =>
    simp only [Bool.false_and]
    go_enter Try.func53, Try.ntmps53
    go_wp2_with (go_at_call 73; refine (C.out _ _).mono ?_; rintro e w1 ⟨rfl, hw⟩; subst w1; rw [h1])
    go_ret
    exact ⟨rfl, by go_grown⟩
  | true =>
    cases h2 : sideB H with
    | false =>
      simp only [Bool.false_and, Bool.and_false]
      go_enter Try.func53, Try.ntmps53
      go_wp2_with (go_at_call 73; refine (C.out _ _).mono ?_; rintro e w1 ⟨rfl, hw⟩; subst w1; first | rw [h1] | rw [h2])
      go_ret
      exact ⟨rfl, by go_grown⟩
    | true =>
      simp only [Bool.true_and]
      have b1 := sideB_iff.1 h1
      have b2 := sideB_iff.1 h2
      have b3 := sides_mul b1 b2
      go_enter Try.func53, Try.ntmps53
      go_wp2_with (go_at_call 73; refine (C.out _ _).mono ?_; rintro e w1 ⟨rfl, hw⟩; subst w1; first | rw [h1] | rw [h2])
      go_ret
      exact ⟨rfl, by go_grown⟩

set_option maxHeartbeats 800000 in
theorem specPicOk (W H : Int) (s : ByteArray) (w : World) :
    Calls Try.prog 72 #[picV W H s] w fun e w' => e = .returned (.bool (picB W H s)) ∧ Below w.heap.size w w' := by
  have C : Hid (∀ n w', Calls Try.prog 58 #[.int .i64 n, .int .i64 1, .int .i64 256] w' fun e w'' => e = .returned (.bool (sideB n)) ∧ w'' = w') := fun n w' => in_any n 1 256 w'
  unfold picB
  cases h1 : sideB W with
  | false =>
    simp only [Bool.false_and]
    go_enter Try.func72, Try.ntmps72
    go_wp2_with (go_at_call 58; refine (C.out _ _).mono ?_; rintro e w1 ⟨rfl, hw⟩; subst w1; rw [h1])
    go_ret
    exact ⟨rfl, by go_grown⟩
  | true =>
    cases h2 : sideB H with
    | false =>
      simp only [Bool.false_and, Bool.and_false]
      go_enter Try.func72, Try.ntmps72
      go_wp2_with (go_at_call 58; refine (C.out _ _).mono ?_; rintro e w1 ⟨rfl, hw⟩; subst w1; first | rw [h1] | rw [h2])
      go_ret
      exact ⟨rfl, by go_grown⟩
    | true =>
      simp only [Bool.true_and]
      have b1 := sideB_iff.1 h1
      have b2 := sideB_iff.1 h2
      have b3 := sides_mul b1 b2
      go_enter Try.func72, Try.ntmps72
      go_wp2_with (go_at_call 58; refine (C.out _ _).mono ?_; rintro e w1 ⟨rfl, hw⟩; subst w1; first | rw [h1] | rw [h2])
      go_ret
      exact ⟨rfl, by go_grown⟩
end Go.Proofs.Ythmcedfkfoagdaa
