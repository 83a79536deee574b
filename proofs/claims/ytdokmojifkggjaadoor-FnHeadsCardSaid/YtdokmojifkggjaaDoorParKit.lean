/-
  Pars: the walks of impl.parFault and ParOk of both, laws.toPar, ParRow of both; a par that came in.
-/
import Derived.Test.YtdokmojifkggjaaDoorMFaultKit
import Derived.Test.YtdokmojifkggjaaDoorMFixKit
import Derived.Test.YtdokmojifkggjaaDoorSeqArg
namespace Go.Proofs.YtdokmojifkggjaaDoor
open Go.ChangeShapes Go.WideShapes Go.ChangeAt Go.RowKit
set_option linter.unusedVariables false
set_option maxRecDepth 20000

set_option maxRecDepth 100000 in
/-- A par that came in, opened. -/
theorem par_in {H : Type} {enc : TypeId × Value → H} {W : World} {base : Nat} {v : Value} {d : DataW H} {p : List MemPlace} (hv : Value.okWide Tryd.prog W .any base 43 v) (h : DataW.Trod enc Tryd.prog W 0 (fun _ => true) true 43 v d p) :
    ∃ (q : Int) (g x c : Bool), v = .agg #[.int .i64 q, .bool g, .bool x, .bool c] ∧ (Lit.int .i64 q).wf = true := by
  obtain ⟨v0, v1, v2, v3, y0, y1, y2, y3, n, rfl, _, _, t0, t1, t2, t3⟩ := Go.Joins.open_agg4 Tryd.underlying43 (by kernel_rfl) (by kernel_rfl) hv h
  obtain ⟨q, e0, _, w0⟩ := DataW.trod_int Tryd.underlying3 t0
  obtain ⟨g, e1, _⟩ := DataW.trod_bool Tryd.underlying4 t1
  obtain ⟨x, e2, _⟩ := DataW.trod_bool Tryd.underlying4 t2
  obtain ⟨c, e3, _⟩ := DataW.trod_bool Tryd.underlying4 t3
  simp at e0 e1 e2 e3
  subst e0 e1 e2 e3
  exact ⟨q, g, x, c, rfl, w0⟩

set_option maxHeartbeats 800000 in
theorem parFault_any (q : Int) (g x c : Bool) (w : World) :
    Calls Tryd.prog 68 #[.agg #[.int .i64 q, .bool g, .bool x, .bool c]] w fun e w' => ((parB q g x = true ∧ e = .returned .nilIface) ∨ (parB q g x = false ∧ ∃ k : Int, k ≠ 0 ∧ e = .returned (faultV k))) ∧ Below w.heap.size w w' := by
  have hbA := (Below.refl w.heap.size w).alloc (Nat.le_refl _) (.cells #[.int .i64 q, .bool g, .bool x, .bool c] 28)
  by_cases k1 : q < 0
  · go_enter Tryd.func68, Tryd.ntmps68
    go_wp2
    go_ret
    exact ⟨.inr ⟨by unfold parB; simp; omega, 5, by decide, rfl⟩, hbA⟩
  by_cases k2 : 40 < q
  · go_enter Tryd.func68, Tryd.ntmps68
    go_wp2
    go_ret
    exact ⟨.inr ⟨by unfold parB; simp; omega, 5, by decide, rfl⟩, hbA⟩
  have hq : (decide (0 ≤ q) && decide (q ≤ 40)) = true := by simp; omega
  have HQ : Hid ((decide (0 ≤ q) && decide (q ≤ 40)) = true) := hq
  clear hq
  cases g <;> cases x
  case true.true =>
    go_enter Tryd.func68, Tryd.ntmps68
    go_wp2
    go_ret
    exact ⟨.inr ⟨by unfold parB; rw [HQ.out]; rfl, 6, by decide, rfl⟩, hbA⟩
  all_goals
    go_enter Tryd.func68, Tryd.ntmps68
    go_wp2
    go_ret
    exact ⟨.inl ⟨by unfold parB; rw [HQ.out]; rfl, rfl⟩, hbA⟩

set_option maxHeartbeats 800000 in
theorem implParOk (q : Int) (g x c : Bool) (w : World) (hg : ErrT w) :
    Calls Tryd.prog 39 #[.agg #[.int .i64 q, .bool g, .bool x, .bool c]] w fun e w' => e = .returned (.bool (parB q g x)) ∧ Below w.heap.size w w' := by
  have H : Hid (ErrT w) := hg
  clear hg
  go_enter Tryd.func39, Tryd.ntmps39
  go_wp2_with fail
  generalize hW : World.alloc w _ = W
  have hb0 : Below w.heap.size w W := by rw [← hW]; exact (Below.refl _ _).alloc (Nat.le_refl _) _
  clear hW
  refine (parFault_any _ _ _ _ W).mono ?_
  rintro e w1 ⟨⟨hs, rfl⟩ | ⟨hs, k, hc0, rfl⟩, hc⟩
  · have hb1 := hb0.trans (hc.mono hb0.size)
    have HS : Hid (parB q g x = true) := hs
    clear hs hc hb0
    go_wp2_with (go_at_call 66; refine (code_nil _).mono ?_; rintro e w2 ⟨rfl, hc2⟩)
    go_ret
    exact ⟨by rw [HS.out]; rfl, hb1.trans (hc2.mono hb1.size)⟩
  · have hb1 := hb0.trans (hc.mono hb0.size)
    have HS : Hid (parB q g x = false) := hs
    have e0 : (k == 0) = false := by rw [beq_eq_false_iff_ne]; exact hc0
    clear hs hc hb0 hc0
    go_wp2_with (go_at_call 66; refine (code_hit _ _ (H.out.below hb1 (Nat.le_refl _))).mono ?_; rintro e w2 ⟨rfl, hc2⟩)
    go_ret
    exact ⟨by rw [HS.out]; rfl, hb1.trans (hc2.mono hb1.size)⟩

set_option maxHeartbeats 800000 in
theorem specParOk (q : Int) (g x c : Bool) (w : World) :
    Calls Tryd.prog 42 #[.agg #[.int .i64 q, .bool g, .bool x, .bool c]] w fun e w' => e = .returned (.bool (parB q g x)) ∧ Below w.heap.size w w' := by
  have hbA := (Below.refl w.heap.size w).alloc (Nat.le_refl _) (.cells #[.int .i64 q, .bool g, .bool x, .bool c] 28)
  cases hk : (decide (0 ≤ q) && decide (q ≤ 40)) with
  | false =>
    have HV : Hid (parB q g x = false) := by show _ = _; unfold parB; rw [hk]; rfl
    go_enter Tryd.func42, Tryd.ntmps42
    go_wp2_with (go_at_call 44; refine (in_any _ _ _ _).mono ?_; rintro e w2 ⟨rfl, hw⟩; subst w2)
    go_ret
    exact ⟨by rw [HV.out]; rfl, hbA⟩
  | true =>
    have HV : Hid (parB q g x = !(g && x)) := by show _ = _; unfold parB; rw [hk]; rfl
    cases g <;> cases x
    all_goals
      go_enter Tryd.func42, Tryd.ntmps42
      go_wp2_with (go_at_call 44; refine (in_any _ _ _ _).mono ?_; rintro e w2 ⟨rfl, hw⟩; subst w2)
      go_ret
      exact ⟨by rw [HV.out]; rfl, hbA⟩

set_option maxHeartbeats 800000 in
theorem toPar_any (q : Int) (g x c : Bool) (w : World) :
    Calls Tryd.prog 18 #[.agg #[.int .i64 q, .bool g, .bool x, .bool c]] w fun e w' => e = .returned (.agg #[.int .i64 q, .bool g, .bool x, .bool c]) ∧ Below w.heap.size w w' := by
  go_enter Tryd.func18, Tryd.ntmps18
  go_wp2
  (try simp only [Exit.inBlock, Exit.then])
  refine bodyPost_ret (results_cell_row rfl _ _ (w.heap.size + 1) 28 _ (0, 0) _ rfl ((Blk.new' _ _ (by simp)).alloc _) Tryd.underlying28 rfl (by kernel_rfl)) rfl ?_
  exact ⟨rfl, by go_grown⟩

/-- The sign of a flag. -/
def flagS (b : Bool) : ByteArray := if b then ⟨#[49]⟩ else ⟨#[48]⟩
theorem flagS_size (b : Bool) : (flagS b).size = 1 := by cases b <;> rfl
/-- The row of a par. -/
def parS (q : Int) (g x c : Bool) : ByteArray := strOfNums (fixL q 6) ++ flagS g ++ flagS x ++ flagS c
theorem parS_size (q : Int) (g x c : Bool) : (parS q g x c).size = 9 := by
  unfold parS
  rw [ByteArray.size_append, ByteArray.size_append, ByteArray.size_append, flagS_size, flagS_size, flagS_size, strOfNums_size, fixL_length]
theorem parB_bd {q : Int} {g x : Bool} (h : parB q g x = true) : 0 ≤ q ∧ q ≤ 40 := by
  unfold parB at h; simp at h; exact h.1

end Go.Proofs.YtdokmojifkggjaaDoor
