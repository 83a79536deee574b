/-
  The walk of impl.ReadHead: the head at a row's beginning.
-/
import Derived.Test.YtdokmojifkggjaaDoorHeadAt
namespace Go.Proofs.YtdokmojifkggjaaDoor
open Go.RowKit
set_option linter.unusedVariables false
set_option maxRecDepth 20000

/-- A head's block that is filled anew. -/
theorem zFill {w w' : World} {g : Nat} {v0 v1 v2 : Value} (h : Blk w' g #[v0, v1, v2] 30) (hb : Below w.heap.size w w') (hg : w.heap.size ≤ g) (t f k : Int) :
    Blk (((w'.setCell ⟨g, 0, none⟩ (.int .i64 t)).setCell ⟨g, 1, none⟩ (.int .i64 f)).setCell ⟨g, 2, none⟩ (.int .i64 k)) g #[.int .i64 t, .int .i64 f, .int .i64 k] 30 ∧
      Below w.heap.size w (((w'.setCell ⟨g, 0, none⟩ (.int .i64 t)).setCell ⟨g, 1, none⟩ (.int .i64 f)).setCell ⟨g, 2, none⟩ (.int .i64 k)) :=
  ⟨((h.set 0 (.int .i64 t) (by simp)).set 1 (.int .i64 f) (by simp)).set 2 (.int .i64 k) (by simp), by go_grown⟩

set_option maxHeartbeats 1600000 in
theorem implReadHead_row (l b : Int) (v1 v2 : Value) (q : Int) (g x c : Bool) (s : ByteArray) (w : World) (hm : s.size ≤ maxLen) (hr : rowOkB s = false) :
    Calls Tryd.prog 13 #[.agg #[.int .i64 l, .int .i64 b, v1, v2], .agg #[.int .i64 q, .bool g, .bool x, .bool c], .string s] w fun e w' => e = .returned (hdV 0 0 0 0 false) ∧ Below w.heap.size w w' := by
  have HR : Hid (∀ w', Calls Tryd.prog 36 #[.string s] w' fun e w'' => e = .returned (.bool false) ∧ w'' = w') := fun w' => by rw [← hr]; exact implRowOk s w' hm
  clear hr hm
  go_enter Tryd.func13, Tryd.ntmps13
  go_wp2_with (go_at_call 36; refine (HR.out _).mono ?_; rintro e w1 ⟨rfl, hw⟩; subst w1)
  (try simp only [Exit.inBlock, Exit.then])
  refine bodyPost_ret (results_cell_two rfl _ _ (w.heap.size + 1 + 1) 30 _ (0, 0) _ rfl (Blk.new' _ _ (by simp)) Tryd.underlying30 rfl (by kernel_rfl)) rfl ?_
  exact ⟨rfl, by go_grown⟩

set_option maxHeartbeats 1600000 in
theorem implReadHead_none (l b : Int) (v1 v2 : Value) (q : Int) (g x c : Bool) (s : ByteArray) (w : World) (hr : rowOkB s = true)
    (CA : Hid (∀ w', Calls Tryd.prog 37 #[.agg #[.int .i64 l, .int .i64 b, v1, v2], .agg #[.int .i64 q, .bool g, .bool x, .bool c], .string s] w' fun e w'' => e = .returned (.tuple #[.agg #[.int .i64 0, .int .i64 0, .int .i64 0], .int .i64 0, .bool false]) ∧ Below w'.heap.size w' w'')) :
    Calls Tryd.prog 13 #[.agg #[.int .i64 l, .int .i64 b, v1, v2], .agg #[.int .i64 q, .bool g, .bool x, .bool c], .string s] w fun e w' => e = .returned (hdV 0 0 0 0 false) ∧ Below w.heap.size w w' := by
  have HR : Hid (∀ w', Calls Tryd.prog 36 #[.string s] w' fun e w'' => e = .returned (.bool true) ∧ w'' = w') := fun w' => by rw [← hr]; exact implRowOk s w' (by have := (rowOkB_true s hr).1; unfold maxLen; omega)
  clear hr
  go_enter Tryd.func13, Tryd.ntmps13
  go_wp2_with (go_at_call 36; refine (HR.out _).mono ?_; rintro e w1 ⟨rfl, hw⟩; subst w1)
  generalize hW : World.alloc (World.alloc (World.alloc w _) _) _ = W
  have Z0 : Blk W (w.heap.size + 1 + 1) #[.int .i64 0, .int .i64 0, .int .i64 0] 30 := by rw [← hW]; exact Blk.new' _ _ (by simp)
  have hb0 : Below w.heap.size w W := by rw [← hW]; exact (((Below.refl _ _).alloc (Nat.le_refl _) _).alloc (by simp) _).alloc (by simp; omega) _
  clear hW
  refine (CA.out W).mono ?_
  rintro e w1 ⟨rfl, hc⟩
  have hb1 := hb0.trans (hc.mono hb0.size)
  have Z1 := Z0.below hc Z0.lt
  clear hc hb0 Z0 CA HR
  have Z2 := Z1.alloc (.cells #[.int .i64 0, .int .i64 0, .int .i64 0] 30)
  have hb2 := hb1.alloc hb1.size (.cells #[.int .i64 0, .int .i64 0, .int .i64 0] 30)
  have F2 : Hid (Blk _ _ _ _ ∧ Below w.heap.size w _) := zFill Z2 hb2 (by omega) 0 0 0
  obtain ⟨⟨z0, z1, z2⟩, f0, f1, f2⟩ := Z2.three
  clear hb1 Z1 hb2 Z2
  go_wp2
  (try simp only [Exit.inBlock, Exit.then])
  refine bodyPost_ret (results_cell_two rfl _ _ (w.heap.size + 1 + 1) 30 _ (0, 0) _ rfl F2.out.1 Tryd.underlying30 rfl (by kernel_rfl)) rfl ?_
  exact ⟨rfl, F2.out.2⟩

set_option maxHeartbeats 1600000 in
theorem implReadHead_any (l b : Int) (a1 a2 : Option Addr) (c1 c2 : Nat) (xs ys : List Int) (q : Int) (g x c : Bool) (s : ByteArray) (w : World) (h : SetIn w a1 a2 xs ys) (hr : rowOkB s = true) (t f k n : Int)
    (CA : Hid (∀ w', Calls Tryd.prog 37 #[.agg #[.int .i64 l, .int .i64 b, .slice a1 xs.length c1, .slice a2 ys.length c2], .agg #[.int .i64 q, .bool g, .bool x, .bool c], .string s] w' fun e w'' => e = .returned (.tuple #[.agg #[.int .i64 t, .int .i64 f, .int .i64 k], .int .i64 n, .bool true]) ∧ Below w'.heap.size w' w'')) :
    Calls Tryd.prog 13 #[.agg #[.int .i64 l, .int .i64 b, .slice a1 xs.length c1, .slice a2 ys.length c2], .agg #[.int .i64 q, .bool g, .bool x, .bool c], .string s] w fun e w' => e = .returned (hdV t f k n (headB l b xs ys q g x t f k)) ∧ Below w.heap.size w w' := by
  have HR : Hid (∀ w', Calls Tryd.prog 36 #[.string s] w' fun e w'' => e = .returned (.bool true) ∧ w'' = w') := fun w' => by rw [← hr]; exact implRowOk s w' (by have := (rowOkB_true s hr).1; unfold maxLen; omega)
  have HK : Hid (∀ w', Below w.heap.size w w' → Calls Tryd.prog 14 #[.agg #[.int .i64 l, .int .i64 b, .slice a1 xs.length c1, .slice a2 ys.length c2], .agg #[.int .i64 q, .bool g, .bool x, .bool c], .agg #[.int .i64 t, .int .i64 f, .int .i64 k]] w' fun e w'' => e = .returned (.bool (headB l b xs ys q g x t f k)) ∧ Below w'.heap.size w' w'') := fun w' hb => implHeadOk l b a1 a2 c1 c2 xs ys q g x c t f k w' (h.below hb (Nat.le_refl _))
  generalize headB l b xs ys q g x t f k = r at *
  clear hr h
  go_enter Tryd.func13, Tryd.ntmps13
  go_wp2_with (go_at_call 36; refine (HR.out _).mono ?_; rintro e w1 ⟨rfl, hw⟩; subst w1)
  generalize hW : World.alloc (World.alloc (World.alloc w _) _) _ = W
  have hs : W.heap.size = w.heap.size + 3 := by rw [← hW]; simp
  have S0 : Blk W w.heap.size #[.int .i64 l, .int .i64 b, .slice a1 xs.length c1, .slice a2 ys.length c2] 26 := by rw [← hW]; exact ((Blk.new w _ _).alloc _).alloc _
  have P0 : Blk W (w.heap.size + 1) #[.int .i64 q, .bool g, .bool x, .bool c] 28 := by rw [← hW]; exact (Blk.new' _ _ (by simp)).alloc _
  have Z0 : Blk W (w.heap.size + 1 + 1) #[.int .i64 0, .int .i64 0, .int .i64 0] 30 := by rw [← hW]; exact Blk.new' _ _ (by simp)
  have hb0 : Below w.heap.size w W := by rw [← hW]; exact (((Below.refl _ _).alloc (Nat.le_refl _) _).alloc (by simp) _).alloc (by simp; omega) _
  clear hW
  refine (CA.out W).mono ?_
  rintro e w1 ⟨rfl, hc⟩
  have hb1 := hb0.trans (hc.mono hb0.size)
  have S1 := (S0.below hc S0.lt).alloc (.cells #[.int .i64 t, .int .i64 f, .int .i64 k] 30)
  have P1 := (P0.below hc P0.lt).alloc (.cells #[.int .i64 t, .int .i64 f, .int .i64 k] 30)
  have Z1 := (Z0.below hc Z0.lt).alloc (.cells #[.int .i64 t, .int .i64 f, .int .i64 k] 30)
  have H1 := Blk.new w1 #[.int .i64 t, .int .i64 f, .int .i64 k] 30
  have hb2 := hb1.alloc hb1.size (.cells #[.int .i64 t, .int .i64 f, .int .i64 k] 30)
  have hg1 : w.heap.size + 1 + 1 < w1.heap.size := by have := hc.size; omega
  clear hc hb0 S0 P0 Z0 CA HR hb1
  obtain ⟨⟨s0, s1, s2, s3⟩, _⟩ := S1.four
  obtain ⟨⟨p0, p1, p2, p3⟩, _⟩ := P1.four
  obtain ⟨⟨j0, j1, j2⟩, _⟩ := H1.three
  go_wp2_with fail
  generalize w1.alloc _ = w2 at *
  generalize w1.heap.size = gh at *
  refine (HK.out w2 hb2).mono ?_
  rintro e w3 ⟨rfl, hc⟩
  have hb3 := hb2.trans (hc.mono hb2.size)
  have Z3 := Z1.below hc Z1.lt
  have H3 := H1.below hc H1.lt
  clear hc hb2 S1 P1 Z1 H1 HK s0 s1 s2 s3 p0 p1 p2 p3 j0 j1 j2
  obtain ⟨⟨z0, z1, z2⟩, f0, f1, f2⟩ := Z3.three
  obtain ⟨⟨j0, j1, j2⟩, _⟩ := H3.three
  cases r with
  | false =>
    have F3 : Hid (Blk _ _ _ _ ∧ Below w.heap.size w _) := zFill Z3 hb3 (by omega) 0 0 0
    clear Z3 H3 hb3
    go_wp2
    (try simp only [Exit.inBlock, Exit.then])
    refine bodyPost_ret (results_cell_two rfl _ _ (w.heap.size + 1 + 1) 30 _ (0, 0) _ rfl F3.out.1 Tryd.underlying30 rfl (by kernel_rfl)) rfl ?_
    exact ⟨rfl, F3.out.2⟩
  | true =>
    have F3 : Hid (Blk _ _ _ _ ∧ Below w.heap.size w _) := zFill Z3 hb3 (by omega) t f k
    clear Z3 H3 hb3
    go_wp2
    (try simp only [Exit.inBlock, Exit.then])
    refine bodyPost_ret (results_cell_two rfl _ _ (w.heap.size + 1 + 1) 30 _ (0, 0) _ rfl F3.out.1 Tryd.underlying30 rfl (by kernel_rfl)) rfl ?_
    exact ⟨rfl, F3.out.2⟩
end Go.Proofs.YtdokmojifkggjaaDoor
