/-
  A square out of a row at every argument: the walks of impl.ReadSquare, spec.l15Read and spec.ReadSquare.
-/
import Derived.Test.YtnlbigjfnjcldaaGreatSquareRead
import Derived.Test.YtnlbigjfnjcldaaGreatRowWalks
namespace Go.Proofs.YtnlbigjfnjcldaaGreat
open Go.RowKit
set_option linter.unusedVariables false
set_option maxRecDepth 20000

abbrev QSt := Option ((Int × Int × Int × Int × List Int) × Nat)
def stK (st : QSt) : Int := match st with | none => 0 | some (u, _) => u.1
def stM (st : QSt) : Int := match st with | none => 0 | some (u, _) => u.2.1
def stX (st : QSt) : Int := match st with | none => 0 | some (u, _) => u.2.2.1
def stY (st : QSt) : Int := match st with | none => 0 | some (u, _) => u.2.2.2.1
def stL (st : QSt) : List Int := match st with | none => [] | some (u, _) => u.2.2.2.2
def stE (st : QSt) : Int := match st with | none => 0 | some (_, e) => (e : Int)
def stB (st : QSt) : Bool := match st with | none => false | some _ => true
/-- The answer that a state tells. -/
abbrev SqSt (w w' : World) (e : Ending) (st : QSt) : Prop := SqAns w w' e (stK st) (stM st) (stX st) (stY st) (stL st) (stE st) (stB st)
/-- What is made of levels that were read. -/
def stR (st : LSt) (kd md dx dy : Int) : QSt := match st with
  | none => none
  | some (f, e) => if sqOkB kd md dx dy (listF 64 f) = true then some ((kd, md, dx, dy, listF 64 f), e) else none
theorem sq_pick {w w' : World} {e : Ending} {kd md dx dy z : Int} {xs : List Int} {y : Bool} {R : QSt} (hh : if (y && sqOkB kd md dx dy xs) = true then SqAns w w' e kd md dx dy xs z true else SqAns w w' e 0 0 0 0 [] 0 false)
    (h1 : (y && sqOkB kd md dx dy xs) = true → ∃ n : Nat, z = (n : Int) ∧ R = some ((kd, md, dx, dy, xs), n)) (h2 : (y && sqOkB kd md dx dy xs) = false → R = none) : SqSt w w' e R := by
  cases hv : (y && sqOkB kd md dx dy xs) with
  | true =>
    rw [hv, if_pos rfl] at hh
    obtain ⟨n, rfl, rfl⟩ := h1 hv
    exact hh
  | false =>
    rw [hv, if_neg (by decide)] at hh
    obtain rfl := h2 hv
    exact hh
theorem pick_st (st : LSt) (kd md dx dy : Int) : ((lsY st && sqOkB kd md dx dy (lsL st)) = true → ∃ n : Nat, lsE st = (n : Int) ∧ stR st kd md dx dy = some ((kd, md, dx, dy, lsL st), n)) ∧ ((lsY st && sqOkB kd md dx dy (lsL st)) = false → stR st kd md dx dy = none) := by
  cases st with
  | none => exact ⟨fun h => by simp [lsY] at h, fun _ => rfl⟩
  | some r =>
    obtain ⟨f, e⟩ := r
    refine ⟨fun h => ⟨e, rfl, ?_⟩, fun h => ?_⟩
    · have h' : sqOkB kd md dx dy (listF 64 f) = true := h
      exact if_pos h'
    · have h' : sqOkB kd md dx dy (listF 64 f) = false := h
      exact if_neg (by rw [h']; decide)
section
variable {F : Nat → Option (Int × Nat)} {g x : Bool} {p p1 p2 p3 : Nat} {kd md u v : Int}
theorem sqR_k0 (h : F p = none) : sqR F true g x p = none := by simp [sqR, h]
theorem sqR_k1 (h : F p = some (md, p2)) : sqR F true g x p = stR (rdM F (lrN g x) p2 (lrC g x)) 2 md 0 0 := by
  unfold sqR stR
  simp only [if_true, h]
  rw [if_neg (by decide), if_neg (by decide)]
  rfl
theorem sqR_n0 (h : F p = none) : sqR F false g x p = none := by simp [sqR, h]
theorem sqR_s (h : F p = some (0, p1)) : sqR F false g x p = some ((0, 0, 0, 0, []), p1) := by simp [sqR, h]
theorem sqR_m0 (h : F p = some (1, p1)) (h1 : F p1 = none) : sqR F false g x p = none := by simp [sqR, h, h1]
theorem sqR_m1 (h : F p = some (1, p1)) (h1 : F p1 = some (u, p2)) (h2 : F p2 = none) : sqR F false g x p = none := by simp [sqR, h, h1, h2]
theorem sqR_m2 (h : F p = some (1, p1)) (h1 : F p1 = some (u, p2)) (h2 : F p2 = some (v, p3)) : sqR F false g x p = stR (rdM F (lrN g x) p3 (lrC g x)) 1 0 (seO u) (seO v) := by
  unfold sqR stR
  simp only [Bool.false_eq_true, if_false, h]
  rw [if_neg (by decide), if_pos trivial]
  simp only [h1, h2]
  rfl
theorem sqR_g0 (h : F p = some (2, p1)) (h1 : F p1 = none) : sqR F false g x p = none := by simp [sqR, h, h1]
theorem sqR_g1 (h : F p = some (2, p1)) (h1 : F p1 = some (md, p2)) : sqR F false g x p = stR (rdM F (lrN g x) p2 (lrC g x)) 2 md 0 0 := by
  unfold sqR stR
  simp only [Bool.false_eq_true, if_false, h]
  rw [if_neg (by decide), if_neg (by decide), if_pos trivial]
  simp only [h1]
  rfl
theorem sqR_b (h : F p = some (kd, p1)) (h0 : ¬ kd = 0) (h1 : ¬ kd = 1) (h2 : ¬ kd = 2) : sqR F false g x p = none := by
  simp [sqR, h, h0, h1, h2]
end
theorem sqOk_zero : sqOkB 0 0 0 0 [] = true := rfl

section
variable {s : ByteArray} {F : Nat → Option (Int × Nat)} (hF : IsCnt s F) (hr : rowOkB s = true) {p p1 p2 p3 : Nat} {kd md u v : Int} (q : Int) (g x : Bool) (w : World)
include hF hr in
theorem at_k0 (hp : p ≤ s.size) (h : F p = none) : Calls Tryz.prog 34 #[.string s, .int .i64 (p : Int), conV true q g x] w fun e w' => SqAns w w' e 0 0 0 0 [] 0 false :=
  (squareAt_guess s p p 0 0 0 0 0 0 [] false true q g x w (by simp) (fun w' => kindAt_key s p q g x w') (fun w' => readAt_guess_no hF hr p 0 0 0 0 none 0 0 true q g x w' hp h)).mono fun e w' hh => by rw [if_neg (by simp)] at hh; exact hh
include hF hr in
theorem at_k1 (h : F p = some (md, p2)) : Calls Tryz.prog 34 #[.string s, .int .i64 (p : Int), conV true q g x] w fun e w' => if (lsY (rdM F (lrN g x) p2 (lrC g x)) && sqOkB 2 md 0 0 (lsL (rdM F (lrN g x) p2 (lrC g x)))) = true then SqAns w w' e 2 md 0 0 (lsL (rdM F (lrN g x) p2 (lrC g x))) (lsE (rdM F (lrN g x) p2 (lrC g x))) true else SqAns w w' e 0 0 0 0 [] 0 false :=
  squareAt_guess s p p 0 2 md 0 0 _ _ _ true q g x w (lsL_le _) (fun w' => kindAt_key s p q g x w') (fun w' => readAt_guess hF hr p p2 md 0 0 0 0 none 0 0 true q g x w' h)
include hF hr in
theorem at_n0 (hp : p ≤ s.size) (h : F p = none) : Calls Tryz.prog 34 #[.string s, .int .i64 (p : Int), conV false q g x] w fun e w' => SqAns w w' e 0 0 0 0 [] 0 false :=
  squareAt_none s p false q g x w (fun w' => kindAt_none hF hr p q g x w' hp h)
include hF hr in
theorem at_s (h : F p = some (0, p1)) : Calls Tryz.prog 34 #[.string s, .int .i64 (p : Int), conV false q g x] w fun e w' => SqAns w w' e 0 0 0 0 [] (p1 : Int) true :=
  (squareAt_skip s p p1 0 0 0 0 0 (p1 : Int) [] true false q g x w (by simp) (fun w' => kindAt_skip hF hr p p1 q g x w' h) (fun w' => readAt_skip 0 0 0 0 none 0 0 s p1 false q g x w')).mono fun e w' hh => by rw [if_pos (by rw [sqOk_zero]; rfl)] at hh; exact hh
include hF hr in
theorem at_m0 (h : F p = some (1, p1)) (h1 : F p1 = none) : Calls Tryz.prog 34 #[.string s, .int .i64 (p : Int), conV false q g x] w fun e w' => SqAns w w' e 0 0 0 0 [] 0 false :=
  (squareAt_move s p p1 1 0 0 0 0 0 [] false false q g x w (by simp) (fun w' => kindAt_move hF hr p p1 q g x w' h) (fun w' => readAt_move_no hF hr p1 1 0 0 0 none 0 0 false q g x w' (hF.bd hr h).2.2 h1)).mono fun e w' hh => by rw [if_neg (by simp)] at hh; exact hh
include hF hr in
theorem at_m1 (h : F p = some (1, p1)) (h1 : F p1 = some (u, p2)) (h2 : F p2 = none) : Calls Tryz.prog 34 #[.string s, .int .i64 (p : Int), conV false q g x] w fun e w' => SqAns w w' e 0 0 0 0 [] 0 false :=
  (squareAt_move s p p1 1 0 0 0 0 0 [] false false q g x w (by simp) (fun w' => kindAt_move hF hr p p1 q g x w' h) (fun w' => readAt_move_no2 hF hr p1 p2 u 1 0 0 0 none 0 0 false q g x w' h1 h2)).mono fun e w' hh => by rw [if_neg (by simp)] at hh; exact hh
include hF hr in
theorem at_m2 (h : F p = some (1, p1)) (h1 : F p1 = some (u, p2)) (h2 : F p2 = some (v, p3)) : Calls Tryz.prog 34 #[.string s, .int .i64 (p : Int), conV false q g x] w fun e w' => if (lsY (rdM F (lrN g x) p3 (lrC g x)) && sqOkB 1 0 (seO u) (seO v) (lsL (rdM F (lrN g x) p3 (lrC g x)))) = true then SqAns w w' e 1 0 (seO u) (seO v) (lsL (rdM F (lrN g x) p3 (lrC g x))) (lsE (rdM F (lrN g x) p3 (lrC g x))) true else SqAns w w' e 0 0 0 0 [] 0 false :=
  squareAt_move s p p1 1 1 0 (seO u) (seO v) _ _ _ false q g x w (lsL_le _) (fun w' => kindAt_move hF hr p p1 q g x w' h) (fun w' => readAt_move hF hr p1 p2 p3 u v 1 0 0 0 none 0 0 false q g x w' h1 h2)
include hF hr in
theorem at_g0 (h : F p = some (2, p1)) (h1 : F p1 = none) : Calls Tryz.prog 34 #[.string s, .int .i64 (p : Int), conV false q g x] w fun e w' => SqAns w w' e 0 0 0 0 [] 0 false :=
  (squareAt_guess s p p1 2 0 0 0 0 0 [] false false q g x w (by simp) (fun w' => kindAt_guess hF hr p p1 q g x w' h) (fun w' => readAt_guess_no hF hr p1 2 0 0 0 none 0 0 false q g x w' (hF.bd hr h).2.2 h1)).mono fun e w' hh => by rw [if_neg (by simp)] at hh; exact hh
include hF hr in
theorem at_g1 (h : F p = some (2, p1)) (h1 : F p1 = some (md, p2)) : Calls Tryz.prog 34 #[.string s, .int .i64 (p : Int), conV false q g x] w fun e w' => if (lsY (rdM F (lrN g x) p2 (lrC g x)) && sqOkB 2 md 0 0 (lsL (rdM F (lrN g x) p2 (lrC g x)))) = true then SqAns w w' e 2 md 0 0 (lsL (rdM F (lrN g x) p2 (lrC g x))) (lsE (rdM F (lrN g x) p2 (lrC g x))) true else SqAns w w' e 0 0 0 0 [] 0 false :=
  squareAt_guess s p p1 2 2 md 0 0 _ _ _ false q g x w (lsL_le _) (fun w' => kindAt_guess hF hr p p1 q g x w' h) (fun w' => readAt_guess hF hr p1 p2 md 2 0 0 0 none 0 0 false q g x w' h1)
include hF hr in
theorem at_b (h : F p = some (kd, p1)) (h0 : ¬ kd = 0) (h1 : ¬ kd = 1) (h2 : ¬ kd = 2) : Calls Tryz.prog 34 #[.string s, .int .i64 (p : Int), conV false q g x] w fun e w' => SqAns w w' e 0 0 0 0 [] 0 false :=
  squareAt_none s p false q g x w (fun w' => kindAt_bad hF hr p p1 kd q g x w' h h0 h1 h2)
include hF hr in
set_option maxHeartbeats 1600000 in
theorem l15_k0 (hp : p ≤ s.size) (h : F p = none) : Calls Tryz.prog 44 #[.string s, .int .i64 (p : Int), conV true q g x] w fun e w' => SqAns w w' e 0 0 0 0 [] 0 false := by
  have C1 : Hid (∀ w', Calls Tryz.prog 60 #[.string s, .int .i64 (p : Int)] w' fun e w'' => e = .returned (.tuple #[.int .i64 0, .int .i64 0, .bool false]) ∧ w'' = w') := fun w' => specUeF_no hF hr w' hp h
  clear hF hr hp h
  go_enter Tryz.func44, Tryz.ntmps44
  go_wp2_with fail
  generalize hW : World.alloc (World.alloc (World.alloc w _) _) _ = W
  have hs : W.heap.size = w.heap.size + 3 := by rw [← hW]; simp
  have P0 : Blk W w.heap.size #[.bool true, .int .i64 q, .bool g, .bool x] 26 := by rw [← hW]; exact ((Blk.new w _ _).alloc _).alloc _
  have Z0 : Blk W (w.heap.size + 1) (sqC 0 0 0 0 none 0 0) 34 := by rw [← hW]; exact (Blk.new' _ _ (by simp)).alloc _
  have Q0 : Blk W (w.heap.size + 1 + 1) (sqC 2 0 0 0 none 0 0) 34 := by rw [← hW]; exact Blk.new' _ _ (by simp)
  have hb0 : Below w.heap.size w W := by rw [← hW]; exact (((Below.refl _ _).alloc (Nat.le_refl _) _).alloc (by simp) _).alloc (by simp; omega) _
  clear hW
  refine (C1.out W).mono ?_
  rintro e w1 ⟨rfl, hw⟩
  subst w1
  obtain ⟨⟨q0, q1, q2, q3, q4⟩, f0, f1, f2, f3, f4⟩ := Q0.five
  have Q1 : Blk (W.setCell ⟨w.heap.size + 1 + 1, 1, none⟩ (.int .i64 0)) (w.heap.size + 1 + 1) (sqC 2 0 0 0 none 0 0) 34 := Q0.set 1 (.int .i64 0) (by simp)
  have Z1 := Z0.other ⟨w.heap.size + 1 + 1, 1, none⟩ (.int .i64 0) (by simp)
  have P1 := P0.other ⟨w.heap.size + 1 + 1, 1, none⟩ (.int .i64 0) (by simp; omega)
  have hb1 := hb0.setCell (p := ⟨w.heap.size + 1 + 1, 1, none⟩) (by simp; omega) (.int .i64 0)
  have hs1 : (W.setCell ⟨w.heap.size + 1 + 1, 1, none⟩ (.int .i64 0)).heap.size = w.heap.size + 3 := by rw [World.size_setCell]; exact hs
  clear Q0 Z0 P0 hb0 hs
  have FF : Hid (Blk _ _ _ _ ∧ Below w.heap.size w _) := qFill Z1 rfl hb1 (by omega) (.int .i64 0) (.int .i64 0) (.int .i64 0) (.int .i64 0) (.slice none 0 0)
  obtain ⟨⟨z0, z1, z2, z3, z4⟩, e0, e1, e2, e3, e4⟩ := Z1.five
  clear Z1 hb1 Q1 P1 hs1
  go_wp2
  (try simp only [Exit.inBlock, Exit.then])
  refine bodyPost_ret (results_cell_two rfl _ _ (w.heap.size + 1) 34 _ (0, 0) _ rfl FF.out.1 Tryz.underlying34 rfl (by kernel_rfl)) rfl ?_
  exact SqAns.zero _ _ FF.out.2
include hF hr in
set_option maxHeartbeats 1600000 in
theorem l15_k1 (h : F p = some (md, p2)) : Calls Tryz.prog 44 #[.string s, .int .i64 (p : Int), conV true q g x] w fun e w' => if (lsY (rdM F (lrN g x) p2 (lrC g x)) && sqOkB 2 md 0 0 (lsL (rdM F (lrN g x) p2 (lrC g x)))) = true then SqAns w w' e 2 md 0 0 (lsL (rdM F (lrN g x) p2 (lrC g x))) (lsE (rdM F (lrN g x) p2 (lrC g x))) true else SqAns w w' e 0 0 0 0 [] 0 false := by
  have C1 : Hid (∀ w', Calls Tryz.prog 60 #[.string s, .int .i64 (p : Int)] w' fun e w'' => e = .returned (.tuple #[.int .i64 md, .int .i64 (p2 : Int), .bool true]) ∧ w'' = w') := fun w' => specUeF hF hr w' h
  have CL : Hid (∀ w', Calls Tryz.prog 62 #[.string s, .int .i64 (p2 : Int), conV true q g x] w' fun e w'' => (∃ v, e = .returned (.tuple #[v, .int .i64 (lsE (rdM F (lrN g x) p2 (lrC g x))), .bool (lsY (rdM F (lrN g x) p2 (lrC g x)))]) ∧ w''.ownsRow w'.heap.size 3 1 v (lsL (rdM F (lrN g x) p2 (lrC g x))).length ((lsL (rdM F (lrN g x) p2 (lrC g x))).map (Value.int .i64))) ∧ Below w'.heap.size w' w'') := fun w' => specL14Read hF hr p2 true q g x w' (hF.bd hr h).2.2
  clear hF hr h
  generalize rdM F (lrN g x) p2 (lrC g x) = st at *
  have C3 : Hid (∀ (a : Option Addr) (c : Nat) w', Ints w' a (lsL st) → Calls Tryz.prog 37 #[sqV 2 md 0 0 a (lsL st).length c] w' fun e w'' => e = .returned (.bool (sqOkB 2 md 0 0 (lsL st))) ∧ Below w'.heap.size w' w'') := fun a c w' hi => specSquareOk 2 md 0 0 a c (lsL st) w' hi (Nat.le_trans (lsL_le st) (by decide))
  generalize lsE st = z at *
  generalize sqOkB 2 md 0 0 (lsL st) = J at *
  generalize lsY st = y at *
  generalize lsL st = xs at *
  go_enter Tryz.func44, Tryz.ntmps44
  go_wp2_with fail
  generalize hW : World.alloc (World.alloc (World.alloc w _) _) _ = W
  have hs : W.heap.size = w.heap.size + 3 := by rw [← hW]; simp
  have P0 : Blk W w.heap.size #[.bool true, .int .i64 q, .bool g, .bool x] 26 := by rw [← hW]; exact ((Blk.new w _ _).alloc _).alloc _
  have Z0 : Blk W (w.heap.size + 1) (sqC 0 0 0 0 none 0 0) 34 := by rw [← hW]; exact (Blk.new' _ _ (by simp)).alloc _
  have Q0 : Blk W (w.heap.size + 1 + 1) (sqC 2 0 0 0 none 0 0) 34 := by rw [← hW]; exact Blk.new' _ _ (by simp)
  have hb0 : Below w.heap.size w W := by rw [← hW]; exact (((Below.refl _ _).alloc (Nat.le_refl _) _).alloc (by simp) _).alloc (by simp; omega) _
  clear hW
  refine (C1.out W).mono ?_
  rintro e w1 ⟨rfl, hw⟩
  subst w1
  obtain ⟨⟨q0, q1, q2, q3, q4⟩, f0, f1, f2, f3, f4⟩ := Q0.five
  have Q1 : Blk (W.setCell ⟨w.heap.size + 1 + 1, 1, none⟩ (.int .i64 md)) (w.heap.size + 1 + 1) (sqC 2 md 0 0 none 0 0) 34 := Q0.set 1 (.int .i64 md) (by simp)
  have Z1 := Z0.other ⟨w.heap.size + 1 + 1, 1, none⟩ (.int .i64 md) (by simp)
  have P1 := P0.other ⟨w.heap.size + 1 + 1, 1, none⟩ (.int .i64 md) (by simp; omega)
  have hb1 := hb0.setCell (p := ⟨w.heap.size + 1 + 1, 1, none⟩) (by simp; omega) (.int .i64 md)
  have hs1 : (W.setCell ⟨w.heap.size + 1 + 1, 1, none⟩ (.int .i64 md)).heap.size = w.heap.size + 3 := by rw [World.size_setCell]; exact hs
  clear Q0 Z0 P0 hb0 hs
  obtain ⟨⟨y0, y1, y2, y3⟩, _⟩ := P1.four
  go_wp2_with fail
  clear q0 q1 q2 q3 q4 f0 f1 f2 f3 f4
  generalize W.setCell _ _ = W1 at *
  refine (CL.out W1).mono ?_
  rintro e w3 ⟨⟨v', rfl, ho⟩, hc⟩
  have Q4 := Q1.below hc Q1.lt
  have Z4 := Z1.below hc Z1.lt
  have hb4 := hb1.trans (hc.mono hb1.size)
  have hs4 := hc.size
  rw [hs1] at ho hs4
  obtain ⟨pv, cv, rfl, _, _⟩ := ints_of_owns ho
  obtain ⟨⟨q0, q1, q2, q3, q4⟩, f0, f1, f2, f3, f4⟩ := Q4.five
  have Q5 : Blk (w3.setCell ⟨w.heap.size + 1 + 1, 4, none⟩ (.slice pv xs.length cv)) (w.heap.size + 1 + 1) (sqC 2 md 0 0 pv xs.length cv) 34 := Q4.set 4 (.slice pv xs.length cv) (by simp)
  have Z5 := Z4.other ⟨w.heap.size + 1 + 1, 4, none⟩ (.slice pv xs.length cv) (by simp)
  have hb5 := hb4.setCell (p := ⟨w.heap.size + 1 + 1, 4, none⟩) (by simp; omega) (.slice pv xs.length cv)
  have HO5 : Hid (World.ownsRow (w3.setCell ⟨w.heap.size + 1 + 1, 4, none⟩ (.slice pv xs.length cv)) (w.heap.size + 3) 3 1 (.slice pv xs.length cv) xs.length (xs.map (Value.int .i64))) := ownsRow_setCell_below ho (a := ⟨w.heap.size + 1 + 1, 4, none⟩) (by simp) _
  clear ho hc Q4 Z4 hb4 Q1 Z1 P1 hb1 y0 y1 y2 y3 CL
  cases y
  case false =>
    have FF : Hid (Blk _ _ _ _ ∧ Below w.heap.size w _) := qFill Z5 rfl hb5 (by omega) (.int .i64 0) (.int .i64 0) (.int .i64 0) (.int .i64 0) (.slice none 0 0)
    obtain ⟨⟨z0, z1, z2, z3, z4⟩, e0, e1, e2, e3, e4⟩ := Z5.five
    clear Z5 hb5 HO5 Q5 C3
    go_wp2
    (try simp only [Exit.inBlock, Exit.then])
    refine bodyPost_ret (results_cell_two rfl _ _ (w.heap.size + 1) 34 _ (0, 0) _ rfl FF.out.1 Tryz.underlying34 rfl (by kernel_rfl)) rfl ?_
    exact SqAns.zero _ _ FF.out.2
  case true =>
    go_wp2_with fail
    clear q0 q1 q2 q3 q4 f0 f1 f2 f3 f4
    have hs5 : w.heap.size + 3 ≤ (w3.setCell ⟨w.heap.size + 1 + 1, 4, none⟩ (.slice pv xs.length cv)).heap.size := by rw [World.size_setCell]; exact hs4
    clear hs4
    generalize w3.setCell _ _ = w5 at *
    refine (C3.out pv cv w5 (owned_at HO5.out)).mono ?_
    rintro e w6 ⟨rfl, hc⟩
    have Q6 := Q5.below hc Q5.lt
    have Z6 := Z5.below hc Z5.lt
    have hb6 := hb5.trans (hc.mono hb5.size)
    have HO6 : Hid (World.ownsRow w6 (w.heap.size + 3) 3 1 (.slice pv xs.length cv) xs.length (xs.map (Value.int .i64))) := owned_below HO5.out hc
    clear Q5 Z5 hb5 HO5 hc
    cases J
    case false =>
      have FF : Hid (Blk _ _ _ _ ∧ Below w.heap.size w _) := qFill Z6 rfl hb6 (by omega) (.int .i64 0) (.int .i64 0) (.int .i64 0) (.int .i64 0) (.slice none 0 0)
      obtain ⟨⟨z0, z1, z2, z3, z4⟩, e0, e1, e2, e3, e4⟩ := Z6.five
      clear Z6 hb6 HO6 Q6
      go_wp2
      (try simp only [Exit.inBlock, Exit.then])
      refine bodyPost_ret (results_cell_two rfl _ _ (w.heap.size + 1) 34 _ (0, 0) _ rfl FF.out.1 Tryz.underlying34 rfl (by kernel_rfl)) rfl ?_
      exact SqAns.zero _ _ FF.out.2
    case true =>
      have FF : Hid (Blk _ _ _ _ ∧ Below w.heap.size w _) := qFill Z6 rfl hb6 (by omega) (.int .i64 2) (.int .i64 md) (.int .i64 0) (.int .i64 0) (.slice pv xs.length cv)
      have FO : Hid (World.ownsRow _ _ _ _ _ _ _) := own_mono (B' := w.heap.size) (ownFill (g := w.heap.size + 1) HO6.out (by omega) (.int .i64 2) (.int .i64 md) (.int .i64 0) (.int .i64 0) (.slice pv xs.length cv)) (by omega)
      obtain ⟨⟨z0, z1, z2, z3, z4⟩, e0, e1, e2, e3, e4⟩ := Z6.five
      obtain ⟨⟨q0, q1, q2, q3, q4⟩, _⟩ := Q6.five
      clear Z6 Q6 hb6 HO6
      go_wp2
      (try simp only [Exit.inBlock, Exit.then])
      refine bodyPost_ret (results_cell_two rfl _ _ (w.heap.size + 1) 34 _ (0, 0) _ rfl FF.out.1 Tryz.underlying34 rfl (by kernel_rfl)) rfl ?_
      exact ⟨⟨_, _, rfl, FO.out⟩, FF.out.2⟩
include hF hr in
set_option maxHeartbeats 1600000 in
theorem l15_n0 (hp : p ≤ s.size) (h : F p = none) : Calls Tryz.prog 44 #[.string s, .int .i64 (p : Int), conV false q g x] w fun e w' => SqAns w w' e 0 0 0 0 [] 0 false := by
  have C1 : Hid (∀ w', Calls Tryz.prog 60 #[.string s, .int .i64 (p : Int)] w' fun e w'' => e = .returned (.tuple #[.int .i64 0, .int .i64 0, .bool false]) ∧ w'' = w') := fun w' => specUeF_no hF hr w' hp h
  clear hF hr hp h
  go_enter Tryz.func44, Tryz.ntmps44
  go_wp2_with fail
  generalize hW : World.alloc (World.alloc (World.alloc w _) _) _ = W
  have hs : W.heap.size = w.heap.size + 3 := by rw [← hW]; simp
  have P0 : Blk W w.heap.size #[.bool false, .int .i64 q, .bool g, .bool x] 26 := by rw [← hW]; exact ((Blk.new w _ _).alloc _).alloc _
  have Z0 : Blk W (w.heap.size + 1) (sqC 0 0 0 0 none 0 0) 34 := by rw [← hW]; exact (Blk.new' _ _ (by simp)).alloc _
  have Q0 : Blk W (w.heap.size + 1 + 1) (sqC 2 0 0 0 none 0 0) 34 := by rw [← hW]; exact Blk.new' _ _ (by simp)
  have hb0 : Below w.heap.size w W := by rw [← hW]; exact (((Below.refl _ _).alloc (Nat.le_refl _) _).alloc (by simp) _).alloc (by simp; omega) _
  clear hW
  refine (C1.out W).mono ?_
  rintro e w1 ⟨rfl, hw⟩
  subst w1
  obtain ⟨⟨q0, q1, q2, q3, q4⟩, f0, f1, f2, f3, f4⟩ := Q0.five
  have Q1 : Blk (W.setCell ⟨w.heap.size + 1 + 1, 0, none⟩ (.int .i64 0)) (w.heap.size + 1 + 1) (sqC 0 0 0 0 none 0 0) 34 := Q0.set 0 (.int .i64 0) (by simp)
  have Z1 := Z0.other ⟨w.heap.size + 1 + 1, 0, none⟩ (.int .i64 0) (by simp)
  have P1 := P0.other ⟨w.heap.size + 1 + 1, 0, none⟩ (.int .i64 0) (by simp; omega)
  have hb1 := hb0.setCell (p := ⟨w.heap.size + 1 + 1, 0, none⟩) (by simp; omega) (.int .i64 0)
  have hs1 : (W.setCell ⟨w.heap.size + 1 + 1, 0, none⟩ (.int .i64 0)).heap.size = w.heap.size + 3 := by rw [World.size_setCell]; exact hs
  clear Q0 Z0 P0 hb0 hs
  have FF : Hid (Blk _ _ _ _ ∧ Below w.heap.size w _) := qFill Z1 rfl hb1 (by omega) (.int .i64 0) (.int .i64 0) (.int .i64 0) (.int .i64 0) (.slice none 0 0)
  obtain ⟨⟨z0, z1, z2, z3, z4⟩, e0, e1, e2, e3, e4⟩ := Z1.five
  clear Z1 hb1 Q1 P1 hs1
  go_wp2
  (try simp only [Exit.inBlock, Exit.then])
  refine bodyPost_ret (results_cell_two rfl _ _ (w.heap.size + 1) 34 _ (0, 0) _ rfl FF.out.1 Tryz.underlying34 rfl (by kernel_rfl)) rfl ?_
  exact SqAns.zero _ _ FF.out.2
include hF hr in
set_option maxHeartbeats 1600000 in
theorem l15_s (h : F p = some (0, p1)) : Calls Tryz.prog 44 #[.string s, .int .i64 (p : Int), conV false q g x] w fun e w' => SqAns w w' e 0 0 0 0 [] (p1 : Int) true := by
  have C1 : Hid (∀ w', Calls Tryz.prog 60 #[.string s, .int .i64 (p : Int)] w' fun e w'' => e = .returned (.tuple #[.int .i64 0, .int .i64 (p1 : Int), .bool true]) ∧ w'' = w') := fun w' => specUeF hF hr w' h
  clear hF hr h
  go_enter Tryz.func44, Tryz.ntmps44
  go_wp2_with fail
  generalize hW : World.alloc (World.alloc (World.alloc w _) _) _ = W
  have hs : W.heap.size = w.heap.size + 3 := by rw [← hW]; simp
  have P0 : Blk W w.heap.size #[.bool false, .int .i64 q, .bool g, .bool x] 26 := by rw [← hW]; exact ((Blk.new w _ _).alloc _).alloc _
  have Z0 : Blk W (w.heap.size + 1) (sqC 0 0 0 0 none 0 0) 34 := by rw [← hW]; exact (Blk.new' _ _ (by simp)).alloc _
  have Q0 : Blk W (w.heap.size + 1 + 1) (sqC 2 0 0 0 none 0 0) 34 := by rw [← hW]; exact Blk.new' _ _ (by simp)
  have hb0 : Below w.heap.size w W := by rw [← hW]; exact (((Below.refl _ _).alloc (Nat.le_refl _) _).alloc (by simp) _).alloc (by simp; omega) _
  clear hW
  refine (C1.out W).mono ?_
  rintro e w1 ⟨rfl, hw⟩
  subst w1
  obtain ⟨⟨q0, q1, q2, q3, q4⟩, f0, f1, f2, f3, f4⟩ := Q0.five
  have Q1 : Blk (W.setCell ⟨w.heap.size + 1 + 1, 0, none⟩ (.int .i64 0)) (w.heap.size + 1 + 1) (sqC 0 0 0 0 none 0 0) 34 := Q0.set 0 (.int .i64 0) (by simp)
  have Z1 := Z0.other ⟨w.heap.size + 1 + 1, 0, none⟩ (.int .i64 0) (by simp)
  have P1 := P0.other ⟨w.heap.size + 1 + 1, 0, none⟩ (.int .i64 0) (by simp; omega)
  have hb1 := hb0.setCell (p := ⟨w.heap.size + 1 + 1, 0, none⟩) (by simp; omega) (.int .i64 0)
  have hs1 : (W.setCell ⟨w.heap.size + 1 + 1, 0, none⟩ (.int .i64 0)).heap.size = w.heap.size + 3 := by rw [World.size_setCell]; exact hs
  clear Q0 Z0 P0 hb0 hs
  have FF : Hid (Blk _ _ _ _ ∧ Below w.heap.size w _) := qFill Z1 rfl hb1 (by omega) (.int .i64 0) (.int .i64 0) (.int .i64 0) (.int .i64 0) (.slice none 0 0)
  obtain ⟨⟨z0, z1, z2, z3, z4⟩, e0, e1, e2, e3, e4⟩ := Z1.five
  clear Z1 hb1 Q1 P1 hs1
  go_wp2
  (try simp only [Exit.inBlock, Exit.then])
  refine bodyPost_ret (results_cell_two rfl _ _ (w.heap.size + 1) 34 _ (0, 0) _ rfl FF.out.1 Tryz.underlying34 rfl (by kernel_rfl)) rfl ?_
  exact SqAns.zero _ _ FF.out.2
include hF hr in
set_option maxHeartbeats 1600000 in
theorem l15_m0 (h : F p = some (1, p1)) (h1 : F p1 = none) : Calls Tryz.prog 44 #[.string s, .int .i64 (p : Int), conV false q g x] w fun e w' => SqAns w w' e 0 0 0 0 [] 0 false := by
  have C1 : Hid (∀ w', Calls Tryz.prog 60 #[.string s, .int .i64 (p : Int)] w' fun e w'' => e = .returned (.tuple #[.int .i64 1, .int .i64 (p1 : Int), .bool true]) ∧ w'' = w') := fun w' => specUeF hF hr w' h
  have C2 : Hid (∀ w', Calls Tryz.prog 61 #[.string s, .int .i64 (p1 : Int)] w' fun e w'' => e = .returned (.tuple #[.int .i64 0, .int .i64 0, .bool false]) ∧ w'' = w') := fun w' => specSeF_no hF hr w' (hF.bd hr h).2.2 h1
  clear hF hr h h1
  go_enter Tryz.func44, Tryz.ntmps44
  go_wp2_with fail
  generalize hW : World.alloc (World.alloc (World.alloc w _) _) _ = W
  have hs : W.heap.size = w.heap.size + 3 := by rw [← hW]; simp
  have P0 : Blk W w.heap.size #[.bool false, .int .i64 q, .bool g, .bool x] 26 := by rw [← hW]; exact ((Blk.new w _ _).alloc _).alloc _
  have Z0 : Blk W (w.heap.size + 1) (sqC 0 0 0 0 none 0 0) 34 := by rw [← hW]; exact (Blk.new' _ _ (by simp)).alloc _
  have Q0 : Blk W (w.heap.size + 1 + 1) (sqC 2 0 0 0 none 0 0) 34 := by rw [← hW]; exact Blk.new' _ _ (by simp)
  have hb0 : Below w.heap.size w W := by rw [← hW]; exact (((Below.refl _ _).alloc (Nat.le_refl _) _).alloc (by simp) _).alloc (by simp; omega) _
  clear hW
  refine (C1.out W).mono ?_
  rintro e w1 ⟨rfl, hw⟩
  subst w1
  obtain ⟨⟨q0, q1, q2, q3, q4⟩, f0, f1, f2, f3, f4⟩ := Q0.five
  have Q1 : Blk (W.setCell ⟨w.heap.size + 1 + 1, 0, none⟩ (.int .i64 1)) (w.heap.size + 1 + 1) (sqC 1 0 0 0 none 0 0) 34 := Q0.set 0 (.int .i64 1) (by simp)
  have Z1 := Z0.other ⟨w.heap.size + 1 + 1, 0, none⟩ (.int .i64 1) (by simp)
  have P1 := P0.other ⟨w.heap.size + 1 + 1, 0, none⟩ (.int .i64 1) (by simp; omega)
  have hb1 := hb0.setCell (p := ⟨w.heap.size + 1 + 1, 0, none⟩) (by simp; omega) (.int .i64 1)
  have hs1 : (W.setCell ⟨w.heap.size + 1 + 1, 0, none⟩ (.int .i64 1)).heap.size = w.heap.size + 3 := by rw [World.size_setCell]; exact hs
  clear Q0 Z0 P0 hb0 hs
  go_wp2_with fail
  clear q0 q1 q2 q3 q4 f0 f1 f2 f3 f4
  generalize W.setCell _ _ = W1 at *
  refine (C2.out W1).mono ?_
  rintro e w1 ⟨rfl, hw⟩
  subst w1
  obtain ⟨⟨q0, q1, q2, q3, q4⟩, f0, f1, f2, f3, f4⟩ := Q1.five
  have Q2 : Blk (W1.setCell ⟨w.heap.size + 1 + 1, 2, none⟩ (.int .i64 0)) (w.heap.size + 1 + 1) (sqC 1 0 0 0 none 0 0) 34 := Q1.set 2 (.int .i64 0) (by simp)
  have Z2 := Z1.other ⟨w.heap.size + 1 + 1, 2, none⟩ (.int .i64 0) (by simp)
  have P2 := P1.other ⟨w.heap.size + 1 + 1, 2, none⟩ (.int .i64 0) (by simp; omega)
  have hb2 := hb1.setCell (p := ⟨w.heap.size + 1 + 1, 2, none⟩) (by simp; omega) (.int .i64 0)
  have hs2 : (W1.setCell ⟨w.heap.size + 1 + 1, 2, none⟩ (.int .i64 0)).heap.size = w.heap.size + 3 := by rw [World.size_setCell]; exact hs1
  clear Q1 Z1 P1 hb1 hs1
  have FF : Hid (Blk _ _ _ _ ∧ Below w.heap.size w _) := qFill Z2 rfl hb2 (by omega) (.int .i64 0) (.int .i64 0) (.int .i64 0) (.int .i64 0) (.slice none 0 0)
  obtain ⟨⟨z0, z1, z2, z3, z4⟩, e0, e1, e2, e3, e4⟩ := Z2.five
  clear Z2 hb2 Q2 P2 hs2
  go_wp2
  (try simp only [Exit.inBlock, Exit.then])
  refine bodyPost_ret (results_cell_two rfl _ _ (w.heap.size + 1) 34 _ (0, 0) _ rfl FF.out.1 Tryz.underlying34 rfl (by kernel_rfl)) rfl ?_
  exact SqAns.zero _ _ FF.out.2
include hF hr in
set_option maxHeartbeats 1600000 in
theorem l15_m1 (h : F p = some (1, p1)) (h1 : F p1 = some (u, p2)) (h2 : F p2 = none) : Calls Tryz.prog 44 #[.string s, .int .i64 (p : Int), conV false q g x] w fun e w' => SqAns w w' e 0 0 0 0 [] 0 false := by
  have C1 : Hid (∀ w', Calls Tryz.prog 60 #[.string s, .int .i64 (p : Int)] w' fun e w'' => e = .returned (.tuple #[.int .i64 1, .int .i64 (p1 : Int), .bool true]) ∧ w'' = w') := fun w' => specUeF hF hr w' h
  have C2 : Hid (∀ w', Calls Tryz.prog 61 #[.string s, .int .i64 (p1 : Int)] w' fun e w'' => e = .returned (.tuple #[.int .i64 (seO u), .int .i64 (p2 : Int), .bool true]) ∧ w'' = w') := fun w' => specSeF hF hr w' h1
  have C3 : Hid (∀ w', Calls Tryz.prog 61 #[.string s, .int .i64 (p2 : Int)] w' fun e w'' => e = .returned (.tuple #[.int .i64 0, .int .i64 0, .bool false]) ∧ w'' = w') := fun w' => specSeF_no hF hr w' (hF.bd hr h1).2.2 h2
  clear hF hr h h1 h2
  generalize seO u = ux at *
  go_enter Tryz.func44, Tryz.ntmps44
  go_wp2_with fail
  generalize hW : World.alloc (World.alloc (World.alloc w _) _) _ = W
  have hs : W.heap.size = w.heap.size + 3 := by rw [← hW]; simp
  have P0 : Blk W w.heap.size #[.bool false, .int .i64 q, .bool g, .bool x] 26 := by rw [← hW]; exact ((Blk.new w _ _).alloc _).alloc _
  have Z0 : Blk W (w.heap.size + 1) (sqC 0 0 0 0 none 0 0) 34 := by rw [← hW]; exact (Blk.new' _ _ (by simp)).alloc _
  have Q0 : Blk W (w.heap.size + 1 + 1) (sqC 2 0 0 0 none 0 0) 34 := by rw [← hW]; exact Blk.new' _ _ (by simp)
  have hb0 : Below w.heap.size w W := by rw [← hW]; exact (((Below.refl _ _).alloc (Nat.le_refl _) _).alloc (by simp) _).alloc (by simp; omega) _
  clear hW
  refine (C1.out W).mono ?_
  rintro e w1 ⟨rfl, hw⟩
  subst w1
  obtain ⟨⟨q0, q1, q2, q3, q4⟩, f0, f1, f2, f3, f4⟩ := Q0.five
  have Q1 : Blk (W.setCell ⟨w.heap.size + 1 + 1, 0, none⟩ (.int .i64 1)) (w.heap.size + 1 + 1) (sqC 1 0 0 0 none 0 0) 34 := Q0.set 0 (.int .i64 1) (by simp)
  have Z1 := Z0.other ⟨w.heap.size + 1 + 1, 0, none⟩ (.int .i64 1) (by simp)
  have P1 := P0.other ⟨w.heap.size + 1 + 1, 0, none⟩ (.int .i64 1) (by simp; omega)
  have hb1 := hb0.setCell (p := ⟨w.heap.size + 1 + 1, 0, none⟩) (by simp; omega) (.int .i64 1)
  have hs1 : (W.setCell ⟨w.heap.size + 1 + 1, 0, none⟩ (.int .i64 1)).heap.size = w.heap.size + 3 := by rw [World.size_setCell]; exact hs
  clear Q0 Z0 P0 hb0 hs
  go_wp2_with fail
  clear q0 q1 q2 q3 q4 f0 f1 f2 f3 f4
  generalize W.setCell _ _ = W1 at *
  refine (C2.out W1).mono ?_
  rintro e w1 ⟨rfl, hw⟩
  subst w1
  obtain ⟨⟨q0, q1, q2, q3, q4⟩, f0, f1, f2, f3, f4⟩ := Q1.five
  have Q2 : Blk (W1.setCell ⟨w.heap.size + 1 + 1, 2, none⟩ (.int .i64 ux)) (w.heap.size + 1 + 1) (sqC 1 0 ux 0 none 0 0) 34 := Q1.set 2 (.int .i64 ux) (by simp)
  have Z2 := Z1.other ⟨w.heap.size + 1 + 1, 2, none⟩ (.int .i64 ux) (by simp)
  have P2 := P1.other ⟨w.heap.size + 1 + 1, 2, none⟩ (.int .i64 ux) (by simp; omega)
  have hb2 := hb1.setCell (p := ⟨w.heap.size + 1 + 1, 2, none⟩) (by simp; omega) (.int .i64 ux)
  have hs2 : (W1.setCell ⟨w.heap.size + 1 + 1, 2, none⟩ (.int .i64 ux)).heap.size = w.heap.size + 3 := by rw [World.size_setCell]; exact hs1
  clear Q1 Z1 P1 hb1 hs1
  go_wp2_with fail
  clear q0 q1 q2 q3 q4 f0 f1 f2 f3 f4
  generalize W1.setCell _ _ = W2 at *
  refine (C3.out W2).mono ?_
  rintro e w1 ⟨rfl, hw⟩
  subst w1
  obtain ⟨⟨q0, q1, q2, q3, q4⟩, f0, f1, f2, f3, f4⟩ := Q2.five
  have Q3 : Blk (W2.setCell ⟨w.heap.size + 1 + 1, 3, none⟩ (.int .i64 0)) (w.heap.size + 1 + 1) (sqC 1 0 ux 0 none 0 0) 34 := Q2.set 3 (.int .i64 0) (by simp)
  have Z3 := Z2.other ⟨w.heap.size + 1 + 1, 3, none⟩ (.int .i64 0) (by simp)
  have P3 := P2.other ⟨w.heap.size + 1 + 1, 3, none⟩ (.int .i64 0) (by simp; omega)
  have hb3 := hb2.setCell (p := ⟨w.heap.size + 1 + 1, 3, none⟩) (by simp; omega) (.int .i64 0)
  have hs3 : (W2.setCell ⟨w.heap.size + 1 + 1, 3, none⟩ (.int .i64 0)).heap.size = w.heap.size + 3 := by rw [World.size_setCell]; exact hs2
  clear Q2 Z2 P2 hb2 hs2
  have FF : Hid (Blk _ _ _ _ ∧ Below w.heap.size w _) := qFill Z3 rfl hb3 (by omega) (.int .i64 0) (.int .i64 0) (.int .i64 0) (.int .i64 0) (.slice none 0 0)
  obtain ⟨⟨z0, z1, z2, z3, z4⟩, e0, e1, e2, e3, e4⟩ := Z3.five
  clear Z3 hb3 Q3 P3 hs3
  go_wp2
  (try simp only [Exit.inBlock, Exit.then])
  refine bodyPost_ret (results_cell_two rfl _ _ (w.heap.size + 1) 34 _ (0, 0) _ rfl FF.out.1 Tryz.underlying34 rfl (by kernel_rfl)) rfl ?_
  exact SqAns.zero _ _ FF.out.2
include hF hr in
set_option maxHeartbeats 1600000 in
theorem l15_m2 (h : F p = some (1, p1)) (h1 : F p1 = some (u, p2)) (h2 : F p2 = some (v, p3)) : Calls Tryz.prog 44 #[.string s, .int .i64 (p : Int), conV false q g x] w fun e w' => if (lsY (rdM F (lrN g x) p3 (lrC g x)) && sqOkB 1 0 (seO u) (seO v) (lsL (rdM F (lrN g x) p3 (lrC g x)))) = true then SqAns w w' e 1 0 (seO u) (seO v) (lsL (rdM F (lrN g x) p3 (lrC g x))) (lsE (rdM F (lrN g x) p3 (lrC g x))) true else SqAns w w' e 0 0 0 0 [] 0 false := by
  have C1 : Hid (∀ w', Calls Tryz.prog 60 #[.string s, .int .i64 (p : Int)] w' fun e w'' => e = .returned (.tuple #[.int .i64 1, .int .i64 (p1 : Int), .bool true]) ∧ w'' = w') := fun w' => specUeF hF hr w' h
  have C2 : Hid (∀ w', Calls Tryz.prog 61 #[.string s, .int .i64 (p1 : Int)] w' fun e w'' => e = .returned (.tuple #[.int .i64 (seO u), .int .i64 (p2 : Int), .bool true]) ∧ w'' = w') := fun w' => specSeF hF hr w' h1
  have C4 : Hid (∀ w', Calls Tryz.prog 61 #[.string s, .int .i64 (p2 : Int)] w' fun e w'' => e = .returned (.tuple #[.int .i64 (seO v), .int .i64 (p3 : Int), .bool true]) ∧ w'' = w') := fun w' => specSeF hF hr w' h2
  have CL : Hid (∀ w', Calls Tryz.prog 62 #[.string s, .int .i64 (p3 : Int), conV false q g x] w' fun e w'' => (∃ v, e = .returned (.tuple #[v, .int .i64 (lsE (rdM F (lrN g x) p3 (lrC g x))), .bool (lsY (rdM F (lrN g x) p3 (lrC g x)))]) ∧ w''.ownsRow w'.heap.size 3 1 v (lsL (rdM F (lrN g x) p3 (lrC g x))).length ((lsL (rdM F (lrN g x) p3 (lrC g x))).map (Value.int .i64))) ∧ Below w'.heap.size w' w'') := fun w' => specL14Read hF hr p3 false q g x w' (hF.bd hr h2).2.2
  clear hF hr h h1 h2
  generalize rdM F (lrN g x) p3 (lrC g x) = st at *
  generalize seO u = ux at *
  generalize seO v = vx at *
  have C3 : Hid (∀ (a : Option Addr) (c : Nat) w', Ints w' a (lsL st) → Calls Tryz.prog 37 #[sqV 1 0 ux vx a (lsL st).length c] w' fun e w'' => e = .returned (.bool (sqOkB 1 0 ux vx (lsL st))) ∧ Below w'.heap.size w' w'') := fun a c w' hi => specSquareOk 1 0 ux vx a c (lsL st) w' hi (Nat.le_trans (lsL_le st) (by decide))
  generalize lsE st = z at *
  generalize sqOkB 1 0 ux vx (lsL st) = J at *
  generalize lsY st = y at *
  generalize lsL st = xs at *
  go_enter Tryz.func44, Tryz.ntmps44
  go_wp2_with fail
  generalize hW : World.alloc (World.alloc (World.alloc w _) _) _ = W
  have hs : W.heap.size = w.heap.size + 3 := by rw [← hW]; simp
  have P0 : Blk W w.heap.size #[.bool false, .int .i64 q, .bool g, .bool x] 26 := by rw [← hW]; exact ((Blk.new w _ _).alloc _).alloc _
  have Z0 : Blk W (w.heap.size + 1) (sqC 0 0 0 0 none 0 0) 34 := by rw [← hW]; exact (Blk.new' _ _ (by simp)).alloc _
  have Q0 : Blk W (w.heap.size + 1 + 1) (sqC 2 0 0 0 none 0 0) 34 := by rw [← hW]; exact Blk.new' _ _ (by simp)
  have hb0 : Below w.heap.size w W := by rw [← hW]; exact (((Below.refl _ _).alloc (Nat.le_refl _) _).alloc (by simp) _).alloc (by simp; omega) _
  clear hW
  refine (C1.out W).mono ?_
  rintro e w1 ⟨rfl, hw⟩
  subst w1
  obtain ⟨⟨q0, q1, q2, q3, q4⟩, f0, f1, f2, f3, f4⟩ := Q0.five
  have Q1 : Blk (W.setCell ⟨w.heap.size + 1 + 1, 0, none⟩ (.int .i64 1)) (w.heap.size + 1 + 1) (sqC 1 0 0 0 none 0 0) 34 := Q0.set 0 (.int .i64 1) (by simp)
  have Z1 := Z0.other ⟨w.heap.size + 1 + 1, 0, none⟩ (.int .i64 1) (by simp)
  have P1 := P0.other ⟨w.heap.size + 1 + 1, 0, none⟩ (.int .i64 1) (by simp; omega)
  have hb1 := hb0.setCell (p := ⟨w.heap.size + 1 + 1, 0, none⟩) (by simp; omega) (.int .i64 1)
  have hs1 : (W.setCell ⟨w.heap.size + 1 + 1, 0, none⟩ (.int .i64 1)).heap.size = w.heap.size + 3 := by rw [World.size_setCell]; exact hs
  clear Q0 Z0 P0 hb0 hs
  go_wp2_with fail
  clear q0 q1 q2 q3 q4 f0 f1 f2 f3 f4
  generalize W.setCell _ _ = W1 at *
  refine (C2.out W1).mono ?_
  rintro e w1 ⟨rfl, hw⟩
  subst w1
  obtain ⟨⟨q0, q1, q2, q3, q4⟩, f0, f1, f2, f3, f4⟩ := Q1.five
  have Q2 : Blk (W1.setCell ⟨w.heap.size + 1 + 1, 2, none⟩ (.int .i64 ux)) (w.heap.size + 1 + 1) (sqC 1 0 ux 0 none 0 0) 34 := Q1.set 2 (.int .i64 ux) (by simp)
  have Z2 := Z1.other ⟨w.heap.size + 1 + 1, 2, none⟩ (.int .i64 ux) (by simp)
  have P2 := P1.other ⟨w.heap.size + 1 + 1, 2, none⟩ (.int .i64 ux) (by simp; omega)
  have hb2 := hb1.setCell (p := ⟨w.heap.size + 1 + 1, 2, none⟩) (by simp; omega) (.int .i64 ux)
  have hs2 : (W1.setCell ⟨w.heap.size + 1 + 1, 2, none⟩ (.int .i64 ux)).heap.size = w.heap.size + 3 := by rw [World.size_setCell]; exact hs1
  clear Q1 Z1 P1 hb1 hs1
  go_wp2_with fail
  clear q0 q1 q2 q3 q4 f0 f1 f2 f3 f4
  generalize W1.setCell _ _ = W2 at *
  refine (C4.out W2).mono ?_
  rintro e w1 ⟨rfl, hw⟩
  subst w1
  obtain ⟨⟨q0, q1, q2, q3, q4⟩, f0, f1, f2, f3, f4⟩ := Q2.five
  have Q3 : Blk (W2.setCell ⟨w.heap.size + 1 + 1, 3, none⟩ (.int .i64 vx)) (w.heap.size + 1 + 1) (sqC 1 0 ux vx none 0 0) 34 := Q2.set 3 (.int .i64 vx) (by simp)
  have Z3 := Z2.other ⟨w.heap.size + 1 + 1, 3, none⟩ (.int .i64 vx) (by simp)
  have P3 := P2.other ⟨w.heap.size + 1 + 1, 3, none⟩ (.int .i64 vx) (by simp; omega)
  have hb3 := hb2.setCell (p := ⟨w.heap.size + 1 + 1, 3, none⟩) (by simp; omega) (.int .i64 vx)
  have hs3 : (W2.setCell ⟨w.heap.size + 1 + 1, 3, none⟩ (.int .i64 vx)).heap.size = w.heap.size + 3 := by rw [World.size_setCell]; exact hs2
  clear Q2 Z2 P2 hb2 hs2
  obtain ⟨⟨y0, y1, y2, y3⟩, _⟩ := P3.four
  go_wp2_with fail
  clear q0 q1 q2 q3 q4 f0 f1 f2 f3 f4
  generalize W2.setCell _ _ = W3 at *
  refine (CL.out W3).mono ?_
  rintro e w3 ⟨⟨v', rfl, ho⟩, hc⟩
  have Q4 := Q3.below hc Q3.lt
  have Z4 := Z3.below hc Z3.lt
  have hb4 := hb3.trans (hc.mono hb3.size)
  have hs4 := hc.size
  rw [hs3] at ho hs4
  obtain ⟨pv, cv, rfl, _, _⟩ := ints_of_owns ho
  obtain ⟨⟨q0, q1, q2, q3, q4⟩, f0, f1, f2, f3, f4⟩ := Q4.five
  have Q5 : Blk (w3.setCell ⟨w.heap.size + 1 + 1, 4, none⟩ (.slice pv xs.length cv)) (w.heap.size + 1 + 1) (sqC 1 0 ux vx pv xs.length cv) 34 := Q4.set 4 (.slice pv xs.length cv) (by simp)
  have Z5 := Z4.other ⟨w.heap.size + 1 + 1, 4, none⟩ (.slice pv xs.length cv) (by simp)
  have hb5 := hb4.setCell (p := ⟨w.heap.size + 1 + 1, 4, none⟩) (by simp; omega) (.slice pv xs.length cv)
  have HO5 : Hid (World.ownsRow (w3.setCell ⟨w.heap.size + 1 + 1, 4, none⟩ (.slice pv xs.length cv)) (w.heap.size + 3) 3 1 (.slice pv xs.length cv) xs.length (xs.map (Value.int .i64))) := ownsRow_setCell_below ho (a := ⟨w.heap.size + 1 + 1, 4, none⟩) (by simp) _
  clear ho hc Q4 Z4 hb4 Q3 Z3 P3 hb3 y0 y1 y2 y3 CL
  cases y
  case false =>
    have FF : Hid (Blk _ _ _ _ ∧ Below w.heap.size w _) := qFill Z5 rfl hb5 (by omega) (.int .i64 0) (.int .i64 0) (.int .i64 0) (.int .i64 0) (.slice none 0 0)
    obtain ⟨⟨z0, z1, z2, z3, z4⟩, e0, e1, e2, e3, e4⟩ := Z5.five
    clear Z5 hb5 HO5 Q5 C3
    go_wp2
    (try simp only [Exit.inBlock, Exit.then])
    refine bodyPost_ret (results_cell_two rfl _ _ (w.heap.size + 1) 34 _ (0, 0) _ rfl FF.out.1 Tryz.underlying34 rfl (by kernel_rfl)) rfl ?_
    exact SqAns.zero _ _ FF.out.2
  case true =>
    go_wp2_with fail
    clear q0 q1 q2 q3 q4 f0 f1 f2 f3 f4
    have hs5 : w.heap.size + 3 ≤ (w3.setCell ⟨w.heap.size + 1 + 1, 4, none⟩ (.slice pv xs.length cv)).heap.size := by rw [World.size_setCell]; exact hs4
    clear hs4
    generalize w3.setCell _ _ = w5 at *
    refine (C3.out pv cv w5 (owned_at HO5.out)).mono ?_
    rintro e w6 ⟨rfl, hc⟩
    have Q6 := Q5.below hc Q5.lt
    have Z6 := Z5.below hc Z5.lt
    have hb6 := hb5.trans (hc.mono hb5.size)
    have HO6 : Hid (World.ownsRow w6 (w.heap.size + 3) 3 1 (.slice pv xs.length cv) xs.length (xs.map (Value.int .i64))) := owned_below HO5.out hc
    clear Q5 Z5 hb5 HO5 hc
    cases J
    case false =>
      have FF : Hid (Blk _ _ _ _ ∧ Below w.heap.size w _) := qFill Z6 rfl hb6 (by omega) (.int .i64 0) (.int .i64 0) (.int .i64 0) (.int .i64 0) (.slice none 0 0)
      obtain ⟨⟨z0, z1, z2, z3, z4⟩, e0, e1, e2, e3, e4⟩ := Z6.five
      clear Z6 hb6 HO6 Q6
      go_wp2
      (try simp only [Exit.inBlock, Exit.then])
      refine bodyPost_ret (results_cell_two rfl _ _ (w.heap.size + 1) 34 _ (0, 0) _ rfl FF.out.1 Tryz.underlying34 rfl (by kernel_rfl)) rfl ?_
      exact SqAns.zero _ _ FF.out.2
    case true =>
      have FF : Hid (Blk _ _ _ _ ∧ Below w.heap.size w _) := qFill Z6 rfl hb6 (by omega) (.int .i64 1) (.int .i64 0) (.int .i64 ux) (.int .i64 vx) (.slice pv xs.length cv)
      have FO : Hid (World.ownsRow _ _ _ _ _ _ _) := own_mono (B' := w.heap.size) (ownFill (g := w.heap.size + 1) HO6.out (by omega) (.int .i64 1) (.int .i64 0) (.int .i64 ux) (.int .i64 vx) (.slice pv xs.length cv)) (by omega)
      obtain ⟨⟨z0, z1, z2, z3, z4⟩, e0, e1, e2, e3, e4⟩ := Z6.five
      obtain ⟨⟨q0, q1, q2, q3, q4⟩, _⟩ := Q6.five
      clear Z6 Q6 hb6 HO6
      go_wp2
      (try simp only [Exit.inBlock, Exit.then])
      refine bodyPost_ret (results_cell_two rfl _ _ (w.heap.size + 1) 34 _ (0, 0) _ rfl FF.out.1 Tryz.underlying34 rfl (by kernel_rfl)) rfl ?_
      exact ⟨⟨_, _, rfl, FO.out⟩, FF.out.2⟩
include hF hr in
set_option maxHeartbeats 1600000 in
theorem l15_g0 (h : F p = some (2, p1)) (h1 : F p1 = none) : Calls Tryz.prog 44 #[.string s, .int .i64 (p : Int), conV false q g x] w fun e w' => SqAns w w' e 0 0 0 0 [] 0 false := by
  have C1 : Hid (∀ w', Calls Tryz.prog 60 #[.string s, .int .i64 (p : Int)] w' fun e w'' => e = .returned (.tuple #[.int .i64 2, .int .i64 (p1 : Int), .bool true]) ∧ w'' = w') := fun w' => specUeF hF hr w' h
  have C2 : Hid (∀ w', Calls Tryz.prog 60 #[.string s, .int .i64 (p1 : Int)] w' fun e w'' => e = .returned (.tuple #[.int .i64 0, .int .i64 0, .bool false]) ∧ w'' = w') := fun w' => specUeF_no hF hr w' (hF.bd hr h).2.2 h1
  clear hF hr h h1
  go_enter Tryz.func44, Tryz.ntmps44
  go_wp2_with fail
  generalize hW : World.alloc (World.alloc (World.alloc w _) _) _ = W
  have hs : W.heap.size = w.heap.size + 3 := by rw [← hW]; simp
  have P0 : Blk W w.heap.size #[.bool false, .int .i64 q, .bool g, .bool x] 26 := by rw [← hW]; exact ((Blk.new w _ _).alloc _).alloc _
  have Z0 : Blk W (w.heap.size + 1) (sqC 0 0 0 0 none 0 0) 34 := by rw [← hW]; exact (Blk.new' _ _ (by simp)).alloc _
  have Q0 : Blk W (w.heap.size + 1 + 1) (sqC 2 0 0 0 none 0 0) 34 := by rw [← hW]; exact Blk.new' _ _ (by simp)
  have hb0 : Below w.heap.size w W := by rw [← hW]; exact (((Below.refl _ _).alloc (Nat.le_refl _) _).alloc (by simp) _).alloc (by simp; omega) _
  clear hW
  refine (C1.out W).mono ?_
  rintro e w1 ⟨rfl, hw⟩
  subst w1
  obtain ⟨⟨q0, q1, q2, q3, q4⟩, f0, f1, f2, f3, f4⟩ := Q0.five
  have Q1 : Blk (W.setCell ⟨w.heap.size + 1 + 1, 0, none⟩ (.int .i64 2)) (w.heap.size + 1 + 1) (sqC 2 0 0 0 none 0 0) 34 := Q0.set 0 (.int .i64 2) (by simp)
  have Z1 := Z0.other ⟨w.heap.size + 1 + 1, 0, none⟩ (.int .i64 2) (by simp)
  have P1 := P0.other ⟨w.heap.size + 1 + 1, 0, none⟩ (.int .i64 2) (by simp; omega)
  have hb1 := hb0.setCell (p := ⟨w.heap.size + 1 + 1, 0, none⟩) (by simp; omega) (.int .i64 2)
  have hs1 : (W.setCell ⟨w.heap.size + 1 + 1, 0, none⟩ (.int .i64 2)).heap.size = w.heap.size + 3 := by rw [World.size_setCell]; exact hs
  clear Q0 Z0 P0 hb0 hs
  go_wp2_with fail
  clear q0 q1 q2 q3 q4 f0 f1 f2 f3 f4
  generalize W.setCell _ _ = W1 at *
  refine (C2.out W1).mono ?_
  rintro e w1 ⟨rfl, hw⟩
  subst w1
  obtain ⟨⟨q0, q1, q2, q3, q4⟩, f0, f1, f2, f3, f4⟩ := Q1.five
  have Q2 : Blk (W1.setCell ⟨w.heap.size + 1 + 1, 1, none⟩ (.int .i64 0)) (w.heap.size + 1 + 1) (sqC 2 0 0 0 none 0 0) 34 := Q1.set 1 (.int .i64 0) (by simp)
  have Z2 := Z1.other ⟨w.heap.size + 1 + 1, 1, none⟩ (.int .i64 0) (by simp)
  have P2 := P1.other ⟨w.heap.size + 1 + 1, 1, none⟩ (.int .i64 0) (by simp; omega)
  have hb2 := hb1.setCell (p := ⟨w.heap.size + 1 + 1, 1, none⟩) (by simp; omega) (.int .i64 0)
  have hs2 : (W1.setCell ⟨w.heap.size + 1 + 1, 1, none⟩ (.int .i64 0)).heap.size = w.heap.size + 3 := by rw [World.size_setCell]; exact hs1
  clear Q1 Z1 P1 hb1 hs1
  have FF : Hid (Blk _ _ _ _ ∧ Below w.heap.size w _) := qFill Z2 rfl hb2 (by omega) (.int .i64 0) (.int .i64 0) (.int .i64 0) (.int .i64 0) (.slice none 0 0)
  obtain ⟨⟨z0, z1, z2, z3, z4⟩, e0, e1, e2, e3, e4⟩ := Z2.five
  clear Z2 hb2 Q2 P2 hs2
  go_wp2
  (try simp only [Exit.inBlock, Exit.then])
  refine bodyPost_ret (results_cell_two rfl _ _ (w.heap.size + 1) 34 _ (0, 0) _ rfl FF.out.1 Tryz.underlying34 rfl (by kernel_rfl)) rfl ?_
  exact SqAns.zero _ _ FF.out.2
include hF hr in
set_option maxHeartbeats 1600000 in
theorem l15_g1 (h : F p = some (2, p1)) (h1 : F p1 = some (md, p2)) : Calls Tryz.prog 44 #[.string s, .int .i64 (p : Int), conV false q g x] w fun e w' => if (lsY (rdM F (lrN g x) p2 (lrC g x)) && sqOkB 2 md 0 0 (lsL (rdM F (lrN g x) p2 (lrC g x)))) = true then SqAns w w' e 2 md 0 0 (lsL (rdM F (lrN g x) p2 (lrC g x))) (lsE (rdM F (lrN g x) p2 (lrC g x))) true else SqAns w w' e 0 0 0 0 [] 0 false := by
  have C1 : Hid (∀ w', Calls Tryz.prog 60 #[.string s, .int .i64 (p : Int)] w' fun e w'' => e = .returned (.tuple #[.int .i64 2, .int .i64 (p1 : Int), .bool true]) ∧ w'' = w') := fun w' => specUeF hF hr w' h
  have C2 : Hid (∀ w', Calls Tryz.prog 60 #[.string s, .int .i64 (p1 : Int)] w' fun e w'' => e = .returned (.tuple #[.int .i64 md, .int .i64 (p2 : Int), .bool true]) ∧ w'' = w') := fun w' => specUeF hF hr w' h1
  have CL : Hid (∀ w', Calls Tryz.prog 62 #[.string s, .int .i64 (p2 : Int), conV false q g x] w' fun e w'' => (∃ v, e = .returned (.tuple #[v, .int .i64 (lsE (rdM F (lrN g x) p2 (lrC g x))), .bool (lsY (rdM F (lrN g x) p2 (lrC g x)))]) ∧ w''.ownsRow w'.heap.size 3 1 v (lsL (rdM F (lrN g x) p2 (lrC g x))).length ((lsL (rdM F (lrN g x) p2 (lrC g x))).map (Value.int .i64))) ∧ Below w'.heap.size w' w'') := fun w' => specL14Read hF hr p2 false q g x w' (hF.bd hr h1).2.2
  clear hF hr h h1
  generalize rdM F (lrN g x) p2 (lrC g x) = st at *
  have C3 : Hid (∀ (a : Option Addr) (c : Nat) w', Ints w' a (lsL st) → Calls Tryz.prog 37 #[sqV 2 md 0 0 a (lsL st).length c] w' fun e w'' => e = .returned (.bool (sqOkB 2 md 0 0 (lsL st))) ∧ Below w'.heap.size w' w'') := fun a c w' hi => specSquareOk 2 md 0 0 a c (lsL st) w' hi (Nat.le_trans (lsL_le st) (by decide))
  generalize lsE st = z at *
  generalize sqOkB 2 md 0 0 (lsL st) = J at *
  generalize lsY st = y at *
  generalize lsL st = xs at *
  go_enter Tryz.func44, Tryz.ntmps44
  go_wp2_with fail
  generalize hW : World.alloc (World.alloc (World.alloc w _) _) _ = W
  have hs : W.heap.size = w.heap.size + 3 := by rw [← hW]; simp
  have P0 : Blk W w.heap.size #[.bool false, .int .i64 q, .bool g, .bool x] 26 := by rw [← hW]; exact ((Blk.new w _ _).alloc _).alloc _
  have Z0 : Blk W (w.heap.size + 1) (sqC 0 0 0 0 none 0 0) 34 := by rw [← hW]; exact (Blk.new' _ _ (by simp)).alloc _
  have Q0 : Blk W (w.heap.size + 1 + 1) (sqC 2 0 0 0 none 0 0) 34 := by rw [← hW]; exact Blk.new' _ _ (by simp)
  have hb0 : Below w.heap.size w W := by rw [← hW]; exact (((Below.refl _ _).alloc (Nat.le_refl _) _).alloc (by simp) _).alloc (by simp; omega) _
  clear hW
  refine (C1.out W).mono ?_
  rintro e w1 ⟨rfl, hw⟩
  subst w1
  obtain ⟨⟨q0, q1, q2, q3, q4⟩, f0, f1, f2, f3, f4⟩ := Q0.five
  have Q1 : Blk (W.setCell ⟨w.heap.size + 1 + 1, 0, none⟩ (.int .i64 2)) (w.heap.size + 1 + 1) (sqC 2 0 0 0 none 0 0) 34 := Q0.set 0 (.int .i64 2) (by simp)
  have Z1 := Z0.other ⟨w.heap.size + 1 + 1, 0, none⟩ (.int .i64 2) (by simp)
  have P1 := P0.other ⟨w.heap.size + 1 + 1, 0, none⟩ (.int .i64 2) (by simp; omega)
  have hb1 := hb0.setCell (p := ⟨w.heap.size + 1 + 1, 0, none⟩) (by simp; omega) (.int .i64 2)
  have hs1 : (W.setCell ⟨w.heap.size + 1 + 1, 0, none⟩ (.int .i64 2)).heap.size = w.heap.size + 3 := by rw [World.size_setCell]; exact hs
  clear Q0 Z0 P0 hb0 hs
  go_wp2_with fail
  clear q0 q1 q2 q3 q4 f0 f1 f2 f3 f4
  generalize W.setCell _ _ = W1 at *
  refine (C2.out W1).mono ?_
  rintro e w1 ⟨rfl, hw⟩
  subst w1
  obtain ⟨⟨q0, q1, q2, q3, q4⟩, f0, f1, f2, f3, f4⟩ := Q1.five
  have Q2 : Blk (W1.setCell ⟨w.heap.size + 1 + 1, 1, none⟩ (.int .i64 md)) (w.heap.size + 1 + 1) (sqC 2 md 0 0 none 0 0) 34 := Q1.set 1 (.int .i64 md) (by simp)
  have Z2 := Z1.other ⟨w.heap.size + 1 + 1, 1, none⟩ (.int .i64 md) (by simp)
  have P2 := P1.other ⟨w.heap.size + 1 + 1, 1, none⟩ (.int .i64 md) (by simp; omega)
  have hb2 := hb1.setCell (p := ⟨w.heap.size + 1 + 1, 1, none⟩) (by simp; omega) (.int .i64 md)
  have hs2 : (W1.setCell ⟨w.heap.size + 1 + 1, 1, none⟩ (.int .i64 md)).heap.size = w.heap.size + 3 := by rw [World.size_setCell]; exact hs1
  clear Q1 Z1 P1 hb1 hs1
  obtain ⟨⟨y0, y1, y2, y3⟩, _⟩ := P2.four
  go_wp2_with fail
  clear q0 q1 q2 q3 q4 f0 f1 f2 f3 f4
  generalize W1.setCell _ _ = W2 at *
  refine (CL.out W2).mono ?_
  rintro e w3 ⟨⟨v', rfl, ho⟩, hc⟩
  have Q4 := Q2.below hc Q2.lt
  have Z4 := Z2.below hc Z2.lt
  have hb4 := hb2.trans (hc.mono hb2.size)
  have hs4 := hc.size
  rw [hs2] at ho hs4
  obtain ⟨pv, cv, rfl, _, _⟩ := ints_of_owns ho
  obtain ⟨⟨q0, q1, q2, q3, q4⟩, f0, f1, f2, f3, f4⟩ := Q4.five
  have Q5 : Blk (w3.setCell ⟨w.heap.size + 1 + 1, 4, none⟩ (.slice pv xs.length cv)) (w.heap.size + 1 + 1) (sqC 2 md 0 0 pv xs.length cv) 34 := Q4.set 4 (.slice pv xs.length cv) (by simp)
  have Z5 := Z4.other ⟨w.heap.size + 1 + 1, 4, none⟩ (.slice pv xs.length cv) (by simp)
  have hb5 := hb4.setCell (p := ⟨w.heap.size + 1 + 1, 4, none⟩) (by simp; omega) (.slice pv xs.length cv)
  have HO5 : Hid (World.ownsRow (w3.setCell ⟨w.heap.size + 1 + 1, 4, none⟩ (.slice pv xs.length cv)) (w.heap.size + 3) 3 1 (.slice pv xs.length cv) xs.length (xs.map (Value.int .i64))) := ownsRow_setCell_below ho (a := ⟨w.heap.size + 1 + 1, 4, none⟩) (by simp) _
  clear ho hc Q4 Z4 hb4 Q2 Z2 P2 hb2 y0 y1 y2 y3 CL
  cases y
  case false =>
    have FF : Hid (Blk _ _ _ _ ∧ Below w.heap.size w _) := qFill Z5 rfl hb5 (by omega) (.int .i64 0) (.int .i64 0) (.int .i64 0) (.int .i64 0) (.slice none 0 0)
    obtain ⟨⟨z0, z1, z2, z3, z4⟩, e0, e1, e2, e3, e4⟩ := Z5.five
    clear Z5 hb5 HO5 Q5 C3
    go_wp2
    (try simp only [Exit.inBlock, Exit.then])
    refine bodyPost_ret (results_cell_two rfl _ _ (w.heap.size + 1) 34 _ (0, 0) _ rfl FF.out.1 Tryz.underlying34 rfl (by kernel_rfl)) rfl ?_
    exact SqAns.zero _ _ FF.out.2
  case true =>
    go_wp2_with fail
    clear q0 q1 q2 q3 q4 f0 f1 f2 f3 f4
    have hs5 : w.heap.size + 3 ≤ (w3.setCell ⟨w.heap.size + 1 + 1, 4, none⟩ (.slice pv xs.length cv)).heap.size := by rw [World.size_setCell]; exact hs4
    clear hs4
    generalize w3.setCell _ _ = w5 at *
    refine (C3.out pv cv w5 (owned_at HO5.out)).mono ?_
    rintro e w6 ⟨rfl, hc⟩
    have Q6 := Q5.below hc Q5.lt
    have Z6 := Z5.below hc Z5.lt
    have hb6 := hb5.trans (hc.mono hb5.size)
    have HO6 : Hid (World.ownsRow w6 (w.heap.size + 3) 3 1 (.slice pv xs.length cv) xs.length (xs.map (Value.int .i64))) := owned_below HO5.out hc
    clear Q5 Z5 hb5 HO5 hc
    cases J
    case false =>
      have FF : Hid (Blk _ _ _ _ ∧ Below w.heap.size w _) := qFill Z6 rfl hb6 (by omega) (.int .i64 0) (.int .i64 0) (.int .i64 0) (.int .i64 0) (.slice none 0 0)
      obtain ⟨⟨z0, z1, z2, z3, z4⟩, e0, e1, e2, e3, e4⟩ := Z6.five
      clear Z6 hb6 HO6 Q6
      go_wp2
      (try simp only [Exit.inBlock, Exit.then])
      refine bodyPost_ret (results_cell_two rfl _ _ (w.heap.size + 1) 34 _ (0, 0) _ rfl FF.out.1 Tryz.underlying34 rfl (by kernel_rfl)) rfl ?_
      exact SqAns.zero _ _ FF.out.2
    case true =>
      have FF : Hid (Blk _ _ _ _ ∧ Below w.heap.size w _) := qFill Z6 rfl hb6 (by omega) (.int .i64 2) (.int .i64 md) (.int .i64 0) (.int .i64 0) (.slice pv xs.length cv)
      have FO : Hid (World.ownsRow _ _ _ _ _ _ _) := own_mono (B' := w.heap.size) (ownFill (g := w.heap.size + 1) HO6.out (by omega) (.int .i64 2) (.int .i64 md) (.int .i64 0) (.int .i64 0) (.slice pv xs.length cv)) (by omega)
      obtain ⟨⟨z0, z1, z2, z3, z4⟩, e0, e1, e2, e3, e4⟩ := Z6.five
      obtain ⟨⟨q0, q1, q2, q3, q4⟩, _⟩ := Q6.five
      clear Z6 Q6 hb6 HO6
      go_wp2
      (try simp only [Exit.inBlock, Exit.then])
      refine bodyPost_ret (results_cell_two rfl _ _ (w.heap.size + 1) 34 _ (0, 0) _ rfl FF.out.1 Tryz.underlying34 rfl (by kernel_rfl)) rfl ?_
      exact ⟨⟨_, _, rfl, FO.out⟩, FF.out.2⟩
include hF hr in
set_option maxHeartbeats 1600000 in
theorem l15_b (h : F p = some (kd, p1)) (h0 : ¬ kd = 0) (h1 : ¬ kd = 1) (h2 : ¬ kd = 2) : Calls Tryz.prog 44 #[.string s, .int .i64 (p : Int), conV false q g x] w fun e w' => SqAns w w' e 0 0 0 0 [] 0 false := by
  have hk : 2 < kd := by have := (hF.bd hr h).1; omega
  have C1 : Hid (∀ w', Calls Tryz.prog 60 #[.string s, .int .i64 (p : Int)] w' fun e w'' => e = .returned (.tuple #[.int .i64 kd, .int .i64 (p1 : Int), .bool true]) ∧ w'' = w') := fun w' => specUeF hF hr w' h
  clear hF hr h h0 h1 h2
  go_enter Tryz.func44, Tryz.ntmps44
  go_wp2_with fail
  generalize hW : World.alloc (World.alloc (World.alloc w _) _) _ = W
  have hs : W.heap.size = w.heap.size + 3 := by rw [← hW]; simp
  have P0 : Blk W w.heap.size #[.bool false, .int .i64 q, .bool g, .bool x] 26 := by rw [← hW]; exact ((Blk.new w _ _).alloc _).alloc _
  have Z0 : Blk W (w.heap.size + 1) (sqC 0 0 0 0 none 0 0) 34 := by rw [← hW]; exact (Blk.new' _ _ (by simp)).alloc _
  have Q0 : Blk W (w.heap.size + 1 + 1) (sqC 2 0 0 0 none 0 0) 34 := by rw [← hW]; exact Blk.new' _ _ (by simp)
  have hb0 : Below w.heap.size w W := by rw [← hW]; exact (((Below.refl _ _).alloc (Nat.le_refl _) _).alloc (by simp) _).alloc (by simp; omega) _
  clear hW
  refine (C1.out W).mono ?_
  rintro e w1 ⟨rfl, hw⟩
  subst w1
  obtain ⟨⟨q0, q1, q2, q3, q4⟩, f0, f1, f2, f3, f4⟩ := Q0.five
  have Q1 : Blk (W.setCell ⟨w.heap.size + 1 + 1, 0, none⟩ (.int .i64 kd)) (w.heap.size + 1 + 1) (sqC kd 0 0 0 none 0 0) 34 := Q0.set 0 (.int .i64 kd) (by simp)
  have Z1 := Z0.other ⟨w.heap.size + 1 + 1, 0, none⟩ (.int .i64 kd) (by simp)
  have P1 := P0.other ⟨w.heap.size + 1 + 1, 0, none⟩ (.int .i64 kd) (by simp; omega)
  have hb1 := hb0.setCell (p := ⟨w.heap.size + 1 + 1, 0, none⟩) (by simp; omega) (.int .i64 kd)
  have hs1 : (W.setCell ⟨w.heap.size + 1 + 1, 0, none⟩ (.int .i64 kd)).heap.size = w.heap.size + 3 := by rw [World.size_setCell]; exact hs
  clear Q0 Z0 P0 hb0 hs
  have FF : Hid (Blk _ _ _ _ ∧ Below w.heap.size w _) := qFill Z1 rfl hb1 (by omega) (.int .i64 0) (.int .i64 0) (.int .i64 0) (.int .i64 0) (.slice none 0 0)
  obtain ⟨⟨z0, z1, z2, z3, z4⟩, e0, e1, e2, e3, e4⟩ := Z1.five
  clear Z1 hb1 Q1 P1 hs1
  go_wp2
  (try simp only [Exit.inBlock, Exit.then])
  refine bodyPost_ret (results_cell_two rfl _ _ (w.heap.size + 1) 34 _ (0, 0) _ rfl FF.out.1 Tryz.underlying34 rfl (by kernel_rfl)) rfl ?_
  exact SqAns.zero _ _ FF.out.2
end

theorem squareAt_any {s : ByteArray} {F : Nat → Option (Int × Nat)} (hF : IsCnt s F) (hr : rowOkB s = true) (p : Nat) (k : Bool) (q : Int) (g x : Bool) (w : World) (hp : p ≤ s.size) :
    Calls Tryz.prog 34 #[.string s, .int .i64 (p : Int), conV k q g x] w fun e w' => SqSt w w' e (sqR F k g x p) := by
  cases k with
  | true =>
    cases h : F p with
    | none => rw [sqR_k0 h]; exact at_k0 hF hr q g x w hp h
    | some r =>
      obtain ⟨md, p2⟩ := r
      rw [sqR_k1 h]
      exact (at_k1 hF hr q g x w h).mono fun e w' hh => sq_pick hh (pick_st _ _ _ _ _).1 (pick_st _ _ _ _ _).2
  | false =>
    cases h : F p with
    | none => rw [sqR_n0 h]; exact at_n0 hF hr q g x w hp h
    | some r =>
      obtain ⟨kd, p1⟩ := r
      by_cases h0 : kd = 0
      · subst h0
        rw [sqR_s h]
        exact at_s hF hr q g x w h
      by_cases h1 : kd = 1
      · subst h1
        cases h3 : F p1 with
        | none => rw [sqR_m0 h h3]; exact at_m0 hF hr q g x w h h3
        | some r =>
          obtain ⟨u, p2⟩ := r
          cases h4 : F p2 with
          | none => rw [sqR_m1 h h3 h4]; exact at_m1 hF hr q g x w h h3 h4
          | some r =>
            obtain ⟨v, p3⟩ := r
            rw [sqR_m2 h h3 h4]
            exact (at_m2 hF hr q g x w h h3 h4).mono fun e w' hh => sq_pick hh (pick_st _ _ _ _ _).1 (pick_st _ _ _ _ _).2
      by_cases h2 : kd = 2
      · subst h2
        cases h3 : F p1 with
        | none => rw [sqR_g0 h h3]; exact at_g0 hF hr q g x w h h3
        | some r =>
          obtain ⟨md, p2⟩ := r
          rw [sqR_g1 h h3]
          exact (at_g1 hF hr q g x w h h3).mono fun e w' hh => sq_pick hh (pick_st _ _ _ _ _).1 (pick_st _ _ _ _ _).2
      · rw [sqR_b h h0 h1 h2]
        exact at_b hF hr q g x w h h0 h1 h2

theorem specL15Read {s : ByteArray} {F : Nat → Option (Int × Nat)} (hF : IsCnt s F) (hr : rowOkB s = true) (p : Nat) (k : Bool) (q : Int) (g x : Bool) (w : World) (hp : p ≤ s.size) :
    Calls Tryz.prog 44 #[.string s, .int .i64 (p : Int), conV k q g x] w fun e w' => SqSt w w' e (sqR F k g x p) := by
  cases k with
  | true =>
    cases h : F p with
    | none => rw [sqR_k0 h]; exact l15_k0 hF hr q g x w hp h
    | some r =>
      obtain ⟨md, p2⟩ := r
      rw [sqR_k1 h]
      exact (l15_k1 hF hr q g x w h).mono fun e w' hh => sq_pick hh (pick_st _ _ _ _ _).1 (pick_st _ _ _ _ _).2
  | false =>
    cases h : F p with
    | none => rw [sqR_n0 h]; exact l15_n0 hF hr q g x w hp h
    | some r =>
      obtain ⟨kd, p1⟩ := r
      by_cases h0 : kd = 0
      · subst h0
        rw [sqR_s h]
        exact l15_s hF hr q g x w h
      by_cases h1 : kd = 1
      · subst h1
        cases h3 : F p1 with
        | none => rw [sqR_m0 h h3]; exact l15_m0 hF hr q g x w h h3
        | some r =>
          obtain ⟨u, p2⟩ := r
          cases h4 : F p2 with
          | none => rw [sqR_m1 h h3 h4]; exact l15_m1 hF hr q g x w h h3 h4
          | some r =>
            obtain ⟨v, p3⟩ := r
            rw [sqR_m2 h h3 h4]
            exact (l15_m2 hF hr q g x w h h3 h4).mono fun e w' hh => sq_pick hh (pick_st _ _ _ _ _).1 (pick_st _ _ _ _ _).2
      by_cases h2 : kd = 2
      · subst h2
        cases h3 : F p1 with
        | none => rw [sqR_g0 h h3]; exact l15_g0 hF hr q g x w h h3
        | some r =>
          obtain ⟨md, p2⟩ := r
          rw [sqR_g1 h h3]
          exact (l15_g1 hF hr q g x w h h3).mono fun e w' hh => sq_pick hh (pick_st _ _ _ _ _).1 (pick_st _ _ _ _ _).2
      · rw [sqR_b h h0 h1 h2]
        exact l15_b hF hr q g x w h h0 h1 h2

/-- What a reading at whatever place finds. -/
def rqSt (F : Nat → Option (Int × Nat)) (s : ByteArray) (a : Int) (k : Bool) (q : Int) (g x : Bool) : QSt := if (placeB s a && parB q g x) = true then sqR F k g x a.toNat else none
theorem rqSt_yes {F : Nat → Option (Int × Nat)} {s : ByteArray} {p : Nat} {k : Bool} {q : Int} {g x : Bool} (h : placeB s (p : Int) = true) (h2 : parB q g x = true) : rqSt F s (p : Int) k q g x = sqR F k g x p := by
  unfold rqSt
  rw [if_pos (by rw [h, h2]; rfl), Int.toNat_natCast]
theorem rqSt_no {F : Nat → Option (Int × Nat)} {s : ByteArray} {a : Int} {k : Bool} {q : Int} {g x : Bool} (h : (placeB s a && parB q g x) = false) : rqSt F s a k q g x = none := if_neg (by rw [h]; decide)

set_option maxHeartbeats 1600000 in
theorem implReadSquare {s : ByteArray} {F : Nat → Option (Int × Nat)} (hF : IsCnt s F) (a : Int) (k : Bool) (q : Int) (g x : Bool) (w : World) (hm : s.size ≤ maxLen) :
    Calls Tryz.prog 11 #[.string s, .int .i64 a, conV k q g x] w fun e w' => SqSt w w' e (rqSt F s a k q g x) := by
  have CP : Hid (∀ w', Calls Tryz.prog 33 #[.string s, .int .i64 a] w' (fun e w'' => e = .returned (.bool (placeB s a)) ∧ w'' = w')) := fun w' => implPlace s a w' hm
  have CC : Hid (∀ w', Calls Tryz.prog 30 #[conV k q g x] w' fun e w'' => e = .returned (.bool (parB q g x)) ∧ Below w'.heap.size w' w'') := fun w' => implCondOk k q g x w'
  have CL : Hid (placeB s a = true → parB q g x = true → ∀ w', Calls Tryz.prog 34 #[.string s, .int .i64 a, conV k q g x] w' fun e w'' => (∃ p c, e = .returned (.tuple #[sqV (stK (rqSt F s a k q g x)) (stM (rqSt F s a k q g x)) (stX (rqSt F s a k q g x)) (stY (rqSt F s a k q g x)) p (stL (rqSt F s a k q g x)).length c, .int .i64 (stE (rqSt F s a k q g x)), .bool (stB (rqSt F s a k q g x))]) ∧ w''.ownsRow w'.heap.size 3 1 (.slice p (stL (rqSt F s a k q g x)).length c) (stL (rqSt F s a k q g x)).length ((stL (rqSt F s a k q g x)).map (Value.int .i64))) ∧ Below w'.heap.size w' w'') := fun h1 h2 w' => by
    obtain ⟨a0, a1, hr⟩ := placeB_true s a h1
    obtain ⟨p, rfl⟩ : ∃ p : Nat, a = (p : Int) := ⟨a.toNat, by omega⟩
    rw [rqSt_yes h1 h2]
    exact squareAt_any hF hr p k q g x w' (by omega)
  have HN : Hid ((placeB s a && parB q g x) = false → rqSt F s a k q g x = none) := fun h => rqSt_no h
  clear hF hm
  generalize rqSt F s a k q g x = st at *
  generalize placeB s a = X at *
  generalize parB q g x = Y at *
  go_enter Tryz.func11, Tryz.ntmps11
  go_wp2_with fail
  generalize hW : World.alloc (World.alloc w _) _ = V
  have hs : V.heap.size = w.heap.size + 2 := by rw [← hW]; simp
  have B0 : Blk V w.heap.size #[.bool k, .int .i64 q, .bool g, .bool x] 26 := by rw [← hW]; exact (Blk.new w _ _).alloc _
  have Z0 : Blk V (w.heap.size + 1) (sqC 0 0 0 0 none 0 0) 34 := by rw [← hW]; exact Blk.new' _ _ (by simp)
  have hb0 : Below w.heap.size w V := by rw [← hW]; exact ((Below.refl _ _).alloc (Nat.le_refl _) _).alloc (by simp) _
  clear hW
  have BK : Hid (∀ w', Below V.heap.size V w' → (w'.cell? ⟨w.heap.size, 0, none⟩ = some (.bool k) ∧ w'.cell? ⟨w.heap.size, 1, none⟩ = some (.int .i64 q) ∧ w'.cell? ⟨w.heap.size, 2, none⟩ = some (.bool g) ∧ w'.cell? ⟨w.heap.size, 3, none⟩ = some (.bool x))) := fun w' h => (B0.below h B0.lt).four.1
  have ZK : Hid (∀ w', Below V.heap.size V w' → Blk w' (w.heap.size + 1) (sqC 0 0 0 0 none 0 0) 34) := fun w' h => Z0.below h Z0.lt
  clear B0 Z0
  have hbs := hb0.size
  refine (CP.out V).mono ?_
  rintro e w1 ⟨rfl, hw⟩
  subst w1
  rcases X with _ | _
  · obtain rfl : st = none := HN.out (by rfl)
    have Z1 := ZK.out V (Below.refl _ _)
    have FF : Hid (Blk _ _ _ _ ∧ Below w.heap.size w _) := qFill Z1 rfl hb0 (by omega) (.int .i64 0) (.int .i64 0) (.int .i64 0) (.int .i64 0) (.slice none 0 0)
    obtain ⟨⟨z0, z1, z2, z3, z4⟩, e0, e1, e2, e3, e4⟩ := Z1.five
    clear Z1
    go_wp2
    (try simp only [Exit.inBlock, Exit.then])
    refine bodyPost_ret (results_cell_two rfl _ _ (w.heap.size + 1) 34 _ (0, 0) _ rfl FF.out.1 Tryz.underlying34 rfl (by kernel_rfl)) rfl ?_
    exact SqAns.zero _ _ FF.out.2
  obtain ⟨x0, x1, x2, x3⟩ := BK.out V (Below.refl _ _)
  go_wp2_with fail
  refine (CC.out V).mono ?_
  rintro e w2 ⟨rfl, hc⟩
  have hb2 := hb0.trans (hc.mono hbs)
  clear x0 x1 x2 x3
  rcases Y with _ | _
  · obtain rfl : st = none := HN.out (by rfl)
    have Z1 := ZK.out w2 hc
    have FF : Hid (Blk _ _ _ _ ∧ Below w.heap.size w _) := qFill Z1 rfl hb2 (by omega) (.int .i64 0) (.int .i64 0) (.int .i64 0) (.int .i64 0) (.slice none 0 0)
    obtain ⟨⟨z0, z1, z2, z3, z4⟩, e0, e1, e2, e3, e4⟩ := Z1.five
    clear Z1
    go_wp2
    (try simp only [Exit.inBlock, Exit.then])
    refine bodyPost_ret (results_cell_two rfl _ _ (w.heap.size + 1) 34 _ (0, 0) _ rfl FF.out.1 Tryz.underlying34 rfl (by kernel_rfl)) rfl ?_
    exact SqAns.zero _ _ FF.out.2
  obtain ⟨x0, x1, x2, x3⟩ := BK.out w2 hc
  go_wp2_with fail
  refine (CL.out (by trivial) (by trivial) w2).mono ?_
  rintro e w3 ⟨⟨pv, cv, rfl, ho⟩, hc3⟩
  have hv3 := hc.trans (hc3.mono hc.size)
  have hb3 := hb2.trans (hc3.mono hb2.size)
  have hs3 := hc.size
  rw [hs] at hs3
  have Z1 := ZK.out w3 hv3
  have FF : Hid (Blk _ _ _ _ ∧ Below w.heap.size w _) := qFill Z1 rfl hb3 (by omega) (.int .i64 (stK st)) (.int .i64 (stM st)) (.int .i64 (stX st)) (.int .i64 (stY st)) (.slice pv (stL st).length cv)
  have FO : Hid (World.ownsRow _ _ _ _ _ _ _) := own_mono (B' := w.heap.size) (ownFill (g := w.heap.size + 1) ho (by omega) (.int .i64 (stK st)) (.int .i64 (stM st)) (.int .i64 (stX st)) (.int .i64 (stY st)) (.slice pv (stL st).length cv)) (by omega)
  obtain ⟨⟨z0, z1, z2, z3, z4⟩, e0, e1, e2, e3, e4⟩ := Z1.five
  clear Z1 ho hc3 hv3 hb3 x0 x1 x2 x3
  go_wp2
  (try simp only [Exit.inBlock, Exit.then])
  refine bodyPost_ret (results_cell_two rfl _ _ (w.heap.size + 1) 34 _ (0, 0) _ rfl FF.out.1 Tryz.underlying34 rfl (by kernel_rfl)) rfl ?_
  exact ⟨⟨_, _, rfl, FO.out⟩, FF.out.2⟩

set_option maxHeartbeats 1600000 in
theorem specReadSquare {s : ByteArray} {F : Nat → Option (Int × Nat)} (hF : IsCnt s F) (a : Int) (k : Bool) (q : Int) (g x : Bool) (w : World) (hm : s.size ≤ maxLen) :
    Calls Tryz.prog 20 #[.string s, .int .i64 a, conV k q g x] w fun e w' => SqSt w w' e (rqSt F s a k q g x) := by
  have CP : Hid (∀ w', Calls Tryz.prog 42 #[.string s] w' (fun e w'' => e = .returned (.bool (rowOkB s)) ∧ Below w'.heap.size w' w'')) := fun w' => (specRowOk s w' hm).mono (fun e w'' h => ⟨h.1, by rw [h.2]; exact Below.refl _ _⟩)
  have CI : Hid (∀ w', Calls Tryz.prog 43 #[.int .i64 a, .int .i64 0, .int .i64 (s.size : Int)] w' (fun e w'' => e = .returned (.bool (decide (0 ≤ a) && decide (a ≤ (s.size : Int)))) ∧ w'' = w')) := fun w' => in_any a 0 (s.size : Int) w'
  have CC : Hid (∀ w', Calls Tryz.prog 38 #[conV k q g x] w' fun e w'' => e = .returned (.bool (parB q g x)) ∧ Below w'.heap.size w' w'') := fun w' => specCondOk k q g x w'
  have CL : Hid (rowOkB s = true → (decide (0 ≤ a) && decide (a ≤ (s.size : Int))) = true → parB q g x = true → ∀ w', Calls Tryz.prog 44 #[.string s, .int .i64 a, conV k q g x] w' fun e w'' => (∃ p c, e = .returned (.tuple #[sqV (stK (rqSt F s a k q g x)) (stM (rqSt F s a k q g x)) (stX (rqSt F s a k q g x)) (stY (rqSt F s a k q g x)) p (stL (rqSt F s a k q g x)).length c, .int .i64 (stE (rqSt F s a k q g x)), .bool (stB (rqSt F s a k q g x))]) ∧ w''.ownsRow w'.heap.size 3 1 (.slice p (stL (rqSt F s a k q g x)).length c) (stL (rqSt F s a k q g x)).length ((stL (rqSt F s a k q g x)).map (Value.int .i64))) ∧ Below w'.heap.size w' w'') := fun h1 h2 h3 w' => by
    have ha : 0 ≤ a ∧ a ≤ (s.size : Int) := by simpa using h2
    have hp : placeB s a = true := by unfold placeB; rw [h1, h2]; rfl
    obtain ⟨p, rfl⟩ : ∃ p : Nat, a = (p : Int) := ⟨a.toNat, by omega⟩
    rw [rqSt_yes hp h3]
    exact specL15Read hF h1 p k q g x w' (by omega)
  have HN : Hid (rowOkB s = false ∨ (decide (0 ≤ a) && decide (a ≤ (s.size : Int))) = false ∨ parB q g x = false → rqSt F s a k q g x = none) := fun h => rqSt_no (by
    unfold placeB
    rcases h with h | h | h <;> rw [h] <;> simp)
  clear hF
  unfold maxLen at hm
  have hm' : (s.size : Int) ≤ 9223372036854775807 := by omega
  generalize rqSt F s a k q g x = st at *
  generalize rowOkB s = X at *
  generalize (decide (0 ≤ a) && decide (a ≤ (s.size : Int))) = U at *
  generalize parB q g x = Y at *
  go_enter Tryz.func20, Tryz.ntmps20
  go_wp2_with fail
  generalize hW : World.alloc (World.alloc w _) _ = V
  have hs : V.heap.size = w.heap.size + 2 := by rw [← hW]; simp
  have B0 : Blk V w.heap.size #[.bool k, .int .i64 q, .bool g, .bool x] 26 := by rw [← hW]; exact (Blk.new w _ _).alloc _
  have Z0 : Blk V (w.heap.size + 1) (sqC 0 0 0 0 none 0 0) 34 := by rw [← hW]; exact Blk.new' _ _ (by simp)
  have hb0 : Below w.heap.size w V := by rw [← hW]; exact ((Below.refl _ _).alloc (Nat.le_refl _) _).alloc (by simp) _
  clear hW
  have BK : Hid (∀ w', Below V.heap.size V w' → (w'.cell? ⟨w.heap.size, 0, none⟩ = some (.bool k) ∧ w'.cell? ⟨w.heap.size, 1, none⟩ = some (.int .i64 q) ∧ w'.cell? ⟨w.heap.size, 2, none⟩ = some (.bool g) ∧ w'.cell? ⟨w.heap.size, 3, none⟩ = some (.bool x))) := fun w' h => (B0.below h B0.lt).four.1
  have ZK : Hid (∀ w', Below V.heap.size V w' → Blk w' (w.heap.size + 1) (sqC 0 0 0 0 none 0 0) 34) := fun w' h => Z0.below h Z0.lt
  clear B0 Z0
  have hbs := hb0.size
  refine (CP.out V).mono ?_
  rintro e w1 ⟨rfl, hb1⟩
  have hbw1 := hb0.trans (hb1.mono hbs)
  rcases X with _ | _
  · obtain rfl : st = none := HN.out (.inl rfl)
    have Z1 := ZK.out w1 hb1
    have FF : Hid (Blk _ _ _ _ ∧ Below w.heap.size w _) := qFill Z1 rfl hbw1 (by omega) (.int .i64 0) (.int .i64 0) (.int .i64 0) (.int .i64 0) (.slice none 0 0)
    obtain ⟨⟨z0, z1, z2, z3, z4⟩, e0, e1, e2, e3, e4⟩ := Z1.five
    clear Z1
    go_wp2
    (try simp only [Exit.inBlock, Exit.then])
    refine bodyPost_ret (results_cell_two rfl _ _ (w.heap.size + 1) 34 _ (0, 0) _ rfl FF.out.1 Tryz.underlying34 rfl (by kernel_rfl)) rfl ?_
    exact SqAns.zero _ _ FF.out.2
  rcases U with _ | _
  · obtain rfl : st = none := HN.out (.inr (.inl rfl))
    have Z1 := ZK.out w1 hb1
    have FF : Hid (Blk _ _ _ _ ∧ Below w.heap.size w _) := qFill Z1 rfl hbw1 (by omega) (.int .i64 0) (.int .i64 0) (.int .i64 0) (.int .i64 0) (.slice none 0 0)
    obtain ⟨⟨z0, z1, z2, z3, z4⟩, e0, e1, e2, e3, e4⟩ := Z1.five
    clear Z1
    go_wp2_with (go_at_call 43; refine (CI.out _).mono ?_; rintro e w2 ⟨rfl, hw⟩; subst w2)
    (try simp only [Exit.inBlock, Exit.then])
    refine bodyPost_ret (results_cell_two rfl _ _ (w.heap.size + 1) 34 _ (0, 0) _ rfl FF.out.1 Tryz.underlying34 rfl (by kernel_rfl)) rfl ?_
    exact SqAns.zero _ _ FF.out.2
  obtain ⟨x0, x1, x2, x3⟩ := BK.out w1 hb1
  go_wp2_with (go_at_call 43; refine (CI.out _).mono ?_; rintro e w2 ⟨rfl, hw⟩; subst w2)
  refine (CC.out w1).mono ?_
  rintro e w2 ⟨rfl, hc⟩
  have hb2 := hb1.trans (hc.mono hb1.size)
  have hbw2 := hb0.trans (hb2.mono hbs)
  clear x0 x1 x2 x3
  rcases Y with _ | _
  · obtain rfl : st = none := HN.out (.inr (.inr rfl))
    have Z1 := ZK.out w2 hb2
    have FF : Hid (Blk _ _ _ _ ∧ Below w.heap.size w _) := qFill Z1 rfl hbw2 (by omega) (.int .i64 0) (.int .i64 0) (.int .i64 0) (.int .i64 0) (.slice none 0 0)
    obtain ⟨⟨z0, z1, z2, z3, z4⟩, e0, e1, e2, e3, e4⟩ := Z1.five
    clear Z1
    go_wp2
    (try simp only [Exit.inBlock, Exit.then])
    refine bodyPost_ret (results_cell_two rfl _ _ (w.heap.size + 1) 34 _ (0, 0) _ rfl FF.out.1 Tryz.underlying34 rfl (by kernel_rfl)) rfl ?_
    exact SqAns.zero _ _ FF.out.2
  obtain ⟨x0, x1, x2, x3⟩ := BK.out w2 hb2
  go_wp2_with fail
  refine (CL.out (by trivial) (by trivial) (by trivial) w2).mono ?_
  rintro e w3 ⟨⟨pv, cv, rfl, ho⟩, hc3⟩
  have hv3 := hb2.trans (hc3.mono hb2.size)
  have hb3 := hbw2.trans (hc3.mono hbw2.size)
  have hs3 := hb2.size
  rw [hs] at hs3
  have Z1 := ZK.out w3 hv3
  have FF : Hid (Blk _ _ _ _ ∧ Below w.heap.size w _) := qFill Z1 rfl hb3 (by omega) (.int .i64 (stK st)) (.int .i64 (stM st)) (.int .i64 (stX st)) (.int .i64 (stY st)) (.slice pv (stL st).length cv)
  have FO : Hid (World.ownsRow _ _ _ _ _ _ _) := own_mono (B' := w.heap.size) (ownFill (g := w.heap.size + 1) ho (by omega) (.int .i64 (stK st)) (.int .i64 (stM st)) (.int .i64 (stX st)) (.int .i64 (stY st)) (.slice pv (stL st).length cv)) (by omega)
  obtain ⟨⟨z0, z1, z2, z3, z4⟩, e0, e1, e2, e3, e4⟩ := Z1.five
  clear Z1 ho hc3 hv3 hb3 x0 x1 x2 x3
  go_wp2
  (try simp only [Exit.inBlock, Exit.then])
  refine bodyPost_ret (results_cell_two rfl _ _ (w.heap.size + 1) 34 _ (0, 0) _ rfl FF.out.1 Tryz.underlying34 rfl (by kernel_rfl)) rfl ?_
  exact ⟨⟨_, _, rfl, FO.out⟩, FF.out.2⟩
end Go.Proofs.YtnlbigjfnjcldaaGreat
