/-
  A square out of a row: the walks of impl.kindAt, of the three methods readAt, of impl.squareAt and of impl.ReadSquare.
-/
import Derived.Test.YtnlbigjfnjcldaaGreatSquareOks
import Derived.Test.YtnlbigjfnjcldaaGreatSquareMath
import Derived.Test.YtnlbigjfnjcldaaGreatLeftReadAll
import Derived.OneCell
namespace Go.Proofs.YtnlbigjfnjcldaaGreat
open Go.RowKit
set_option linter.unusedVariables false
set_option maxRecDepth 20000

/-- A square, a place and a yes or no, the square's levels in memory of its own. -/
def SqAns (w w' : World) (e : Ending) (kd md dx dy : Int) (xs : List Int) (z : Int) (y : Bool) : Prop :=
  (∃ p c, e = .returned (.tuple #[sqV kd md dx dy p xs.length c, .int .i64 z, .bool y]) ∧ w'.ownsRow w.heap.size 3 1 (.slice p xs.length c) xs.length (xs.map (Value.int .i64))) ∧ Below w.heap.size w w'
theorem SqAns.zero {w w' : World} (z : Int) (y : Bool) (h : Below w.heap.size w w') : SqAns w w' (.returned (.tuple #[sqV 0 0 0 0 none 0 0, .int .i64 z, .bool y])) 0 0 0 0 [] z y :=
  ⟨⟨none, 0, rfl, World.ownsRow_nil w' _ _ _⟩, h⟩
/-- The square's variable, filled. -/
theorem qFill {w W : World} {g s : Nat} {cs : Array Value} {t : TypeId} (Z : Blk W g cs t) (hn : cs.size = 5) (hb : Below s w W) (hg : s ≤ g) (v0 v1 v2 v3 v4 : Value) :
    Blk (((((W.setCell ⟨g, 0, none⟩ v0).setCell ⟨g, 1, none⟩ v1).setCell ⟨g, 2, none⟩ v2).setCell ⟨g, 3, none⟩ v3).setCell ⟨g, 4, none⟩ v4) g #[v0, v1, v2, v3, v4] t ∧
    Below s w (((((W.setCell ⟨g, 0, none⟩ v0).setCell ⟨g, 1, none⟩ v1).setCell ⟨g, 2, none⟩ v2).setCell ⟨g, 3, none⟩ v3).setCell ⟨g, 4, none⟩ v4) := by
  obtain ⟨⟨c0⟩, _⟩ : ∃ l : Array Value, l = cs := ⟨cs, rfl⟩
  match cs, hn with
  | ⟨[a0, a1, a2, a3, a4]⟩, _ =>
    exact ⟨(((((Z.set 0 v0 (by simp)).set 1 v1 (by simp)).set 2 v2 (by simp)).set 3 v3 (by simp)).set 4 v4 (by simp)), ((((hb.setCell (p := ⟨g, 0, none⟩) hg v0).setCell (p := ⟨g, 1, none⟩) hg v1).setCell (p := ⟨g, 2, none⟩) hg v2).setCell (p := ⟨g, 3, none⟩) hg v3).setCell (p := ⟨g, 4, none⟩) hg v4⟩
theorem ownFill {W : World} {g B n : Nat} {v : Value} {xs : List Value} (h : W.ownsRow B 3 1 v n xs) (hg : g < B) (v0 v1 v2 v3 v4 : Value) :
    (((((W.setCell ⟨g, 0, none⟩ v0).setCell ⟨g, 1, none⟩ v1).setCell ⟨g, 2, none⟩ v2).setCell ⟨g, 3, none⟩ v3).setCell ⟨g, 4, none⟩ v4).ownsRow B 3 1 v n xs :=
  ownsRow_setCell_below (ownsRow_setCell_below (ownsRow_setCell_below (ownsRow_setCell_below (ownsRow_setCell_below h (a := ⟨g, 0, none⟩) hg v0) (a := ⟨g, 1, none⟩) hg v1) (a := ⟨g, 2, none⟩) hg v2) (a := ⟨g, 3, none⟩) hg v3) (a := ⟨g, 4, none⟩) hg v4

theorem kindAt_key (s : ByteArray) (p : Nat) (q : Int) (g x : Bool) (w : World) :
    Calls Tryz.prog 54 #[.string s, .int .i64 (p : Int), conV true q g x] w fun e w' => e = .returned (.tuple #[.iface 80 (sqV 0 0 0 0 none 0 0), .int .i64 (p : Int), .bool true]) ∧ Below w.heap.size w w' := by
  have hb := (Below.refl w.heap.size w).alloc (Nat.le_refl _) (.cells #[.bool true, .int .i64 q, .bool g, .bool x] 26)
  go_enter Tryz.func54, Tryz.ntmps54
  go_wp2
  go_ret3
  exact ⟨rfl, hb⟩
theorem kindAt_none {s : ByteArray} {F : Nat → Option (Int × Nat)} (hF : IsCnt s F) (hr : rowOkB s = true) (p : Nat) (q : Int) (g x : Bool) (w : World) (hp : p ≤ s.size) (h : F p = none) :
    Calls Tryz.prog 54 #[.string s, .int .i64 (p : Int), conV false q g x] w fun e w' => (∃ z, e = .returned (.tuple #[.nilIface, .int .i64 z, .bool false])) ∧ Below w.heap.size w w' := by
  have hb := (Below.refl w.heap.size w).alloc (Nat.le_refl _) (.cells #[.bool false, .int .i64 q, .bool g, .bool x] 26)
  have C1 : Hid (∀ w', Calls Tryz.prog 65 #[.int .i64 0, .string s, .int .i64 (p : Int)] w' fun e w'' => e = .returned (.tuple #[.int .i64 0, .int .i64 0, .bool false]) ∧ w'' = w') := fun w' => implUeF_no hF hr w' hp h
  clear hF hr hp h
  go_enter Tryz.func54, Tryz.ntmps54
  go_wp2_with (go_at_call 65; refine (C1.out _).mono ?_; rintro e w1 ⟨rfl, hw⟩; subst w1)
  go_ret3
  exact ⟨⟨_, rfl⟩, hb⟩
theorem kindAt_skip {s : ByteArray} {F : Nat → Option (Int × Nat)} (hF : IsCnt s F) (hr : rowOkB s = true) (p p1 : Nat) (q : Int) (g x : Bool) (w : World) (h : F p = some (0, p1)) :
    Calls Tryz.prog 54 #[.string s, .int .i64 (p : Int), conV false q g x] w fun e w' => e = .returned (.tuple #[.iface 78 (sqV 0 0 0 0 none 0 0), .int .i64 (p1 : Int), .bool true]) ∧ Below w.heap.size w w' := by
  have hb := (Below.refl w.heap.size w).alloc (Nat.le_refl _) (.cells #[.bool false, .int .i64 q, .bool g, .bool x] 26)
  have C1 : Hid (∀ w', Calls Tryz.prog 65 #[.int .i64 0, .string s, .int .i64 (p : Int)] w' fun e w'' => e = .returned (.tuple #[.int .i64 0, .int .i64 (p1 : Int), .bool true]) ∧ w'' = w') := fun w' => implUeF hF hr w' h
  clear hF hr h
  go_enter Tryz.func54, Tryz.ntmps54
  go_wp2_with (first
    | (go_at_call 65; refine (C1.out _).mono ?_; rintro e w1 ⟨rfl, hw⟩; subst w1)
    | (go_at_call 29; refine (sentAs_skip 0 0 0 none 0 0 _).mono ?_; rintro e w2 ⟨rfl, hc⟩))
  go_ret3
  exact ⟨rfl, hb.trans (hc.mono hb.size)⟩
theorem kindAt_move {s : ByteArray} {F : Nat → Option (Int × Nat)} (hF : IsCnt s F) (hr : rowOkB s = true) (p p1 : Nat) (q : Int) (g x : Bool) (w : World) (h : F p = some (1, p1)) :
    Calls Tryz.prog 54 #[.string s, .int .i64 (p : Int), conV false q g x] w fun e w' => e = .returned (.tuple #[.iface 79 (sqV 1 0 0 0 none 0 0), .int .i64 (p1 : Int), .bool true]) ∧ Below w.heap.size w w' := by
  have hb := (Below.refl w.heap.size w).alloc (Nat.le_refl _) (.cells #[.bool false, .int .i64 q, .bool g, .bool x] 26)
  have C1 : Hid (∀ w', Calls Tryz.prog 65 #[.int .i64 0, .string s, .int .i64 (p : Int)] w' fun e w'' => e = .returned (.tuple #[.int .i64 1, .int .i64 (p1 : Int), .bool true]) ∧ w'' = w') := fun w' => implUeF hF hr w' h
  clear hF hr h
  go_enter Tryz.func54, Tryz.ntmps54
  go_wp2_with (first
    | (go_at_call 65; refine (C1.out _).mono ?_; rintro e w1 ⟨rfl, hw⟩; subst w1)
    | (go_at_call 29; refine (sentAs_move 0 0 0 none 0 0 _).mono ?_; rintro e w2 ⟨rfl, hc⟩))
  go_ret3
  exact ⟨rfl, hb.trans (hc.mono hb.size)⟩
theorem kindAt_guess {s : ByteArray} {F : Nat → Option (Int × Nat)} (hF : IsCnt s F) (hr : rowOkB s = true) (p p1 : Nat) (q : Int) (g x : Bool) (w : World) (h : F p = some (2, p1)) :
    Calls Tryz.prog 54 #[.string s, .int .i64 (p : Int), conV false q g x] w fun e w' => e = .returned (.tuple #[.iface 80 (sqV 2 0 0 0 none 0 0), .int .i64 (p1 : Int), .bool true]) ∧ Below w.heap.size w w' := by
  have hb := (Below.refl w.heap.size w).alloc (Nat.le_refl _) (.cells #[.bool false, .int .i64 q, .bool g, .bool x] 26)
  have C1 : Hid (∀ w', Calls Tryz.prog 65 #[.int .i64 0, .string s, .int .i64 (p : Int)] w' fun e w'' => e = .returned (.tuple #[.int .i64 2, .int .i64 (p1 : Int), .bool true]) ∧ w'' = w') := fun w' => implUeF hF hr w' h
  clear hF hr h
  go_enter Tryz.func54, Tryz.ntmps54
  go_wp2_with (first
    | (go_at_call 65; refine (C1.out _).mono ?_; rintro e w1 ⟨rfl, hw⟩; subst w1)
    | (go_at_call 29; refine (sentAs_guess 0 0 0 none 0 0 _).mono ?_; rintro e w2 ⟨rfl, hc⟩))
  go_ret3
  exact ⟨rfl, hb.trans (hc.mono hb.size)⟩
theorem kindAt_bad {s : ByteArray} {F : Nat → Option (Int × Nat)} (hF : IsCnt s F) (hr : rowOkB s = true) (p p1 : Nat) (kd q : Int) (g x : Bool) (w : World) (h : F p = some (kd, p1)) (h0 : ¬ kd = 0) (h1 : ¬ kd = 1) (h2 : ¬ kd = 2) :
    Calls Tryz.prog 54 #[.string s, .int .i64 (p : Int), conV false q g x] w fun e w' => (∃ z, e = .returned (.tuple #[.nilIface, .int .i64 z, .bool false])) ∧ Below w.heap.size w w' := by
  have hb := (Below.refl w.heap.size w).alloc (Nat.le_refl _) (.cells #[.bool false, .int .i64 q, .bool g, .bool x] 26)
  have C1 : Hid (∀ w', Calls Tryz.prog 65 #[.int .i64 0, .string s, .int .i64 (p : Int)] w' fun e w'' => e = .returned (.tuple #[.int .i64 kd, .int .i64 (p1 : Int), .bool true]) ∧ w'' = w') := fun w' => implUeF hF hr w' h
  have C2 : Hid (∀ w', Calls Tryz.prog 29 #[sqV kd 0 0 0 none 0 0] w' fun e w'' => e = .returned (.tuple #[.nilIface, .bool false]) ∧ Below w'.heap.size w' w'') := fun w' => sentAs_none kd 0 0 0 none 0 0 w' h0 h1 h2
  clear hF hr h h0 h1 h2
  go_enter Tryz.func54, Tryz.ntmps54
  go_wp2_with (first
    | (go_at_call 65; refine (C1.out _).mono ?_; rintro e w1 ⟨rfl, hw⟩; subst w1)
    | (go_at_call 29; refine (C2.out _).mono ?_; rintro e w2 ⟨rfl, hc⟩))
  go_ret3
  exact ⟨⟨_, rfl⟩, hb.trans (hc.mono hb.size)⟩

theorem readAt_skip (m0 m1 m2 m3 : Int) (a : Option Addr) (n c : Nat) (s : ByteArray) (p : Nat) (k : Bool) (q : Int) (g x : Bool) (w : World) :
    Calls Tryz.prog 112 #[sqV m0 m1 m2 m3 a n c, .string s, .int .i64 (p : Int), conV k q g x] w fun e w' => SqAns w w' e 0 0 0 0 [] (p : Int) true := by
  go_enter Tryz.func112, Tryz.ntmps112
  have hb0 := (((Below.refl w.heap.size w).alloc (Nat.le_refl _) (.cells (sqC m0 m1 m2 m3 a n c) 78)).alloc (by simp) (.cells #[.bool k, .int .i64 q, .bool g, .bool x] 26)).alloc (by simp; omega) (.cells (sqC 0 0 0 0 none 0 0) 34)
  go_wp2
  (try simp only [Exit.inBlock, Exit.then])
  refine bodyPost_ret (results_cell_two rfl _ _ (w.heap.size + 1 + 1) 34 _ (0, 0) _ rfl (Blk.new' _ _ (by simp)) Tryz.underlying34 rfl (by kernel_rfl)) rfl ?_
  exact SqAns.zero _ _ hb0

set_option maxHeartbeats 800000 in
theorem readAt_guess_no {s : ByteArray} {F : Nat → Option (Int × Nat)} (hF : IsCnt s F) (hr : rowOkB s = true) (p : Nat) (m0 m1 m2 m3 : Int) (a : Option Addr) (n c : Nat) (k : Bool) (q : Int) (g x : Bool) (w : World) (hp : p ≤ s.size) (h : F p = none) :
    Calls Tryz.prog 184 #[sqV m0 m1 m2 m3 a n c, .string s, .int .i64 (p : Int), conV k q g x] w fun e w' => SqAns w w' e 0 0 0 0 [] 0 false := by
  have C1 : Hid (∀ w', Calls Tryz.prog 65 #[.int .i64 0, .string s, .int .i64 (p : Int)] w' fun e w'' => e = .returned (.tuple #[.int .i64 0, .int .i64 0, .bool false]) ∧ w'' = w') := fun w' => implUeF_no hF hr w' hp h
  clear hF hr hp h
  go_enter Tryz.func184, Tryz.ntmps184
  go_wp2_with fail
  generalize hW : World.alloc (World.alloc (World.alloc w _) _) _ = W
  have hs : W.heap.size = w.heap.size + 3 := by rw [← hW]; simp
  have P0 : Blk W (w.heap.size + 1) #[.bool k, .int .i64 q, .bool g, .bool x] 26 := by rw [← hW]; exact (Blk.new' _ _ (by simp)).alloc _
  have Z0 : Blk W (w.heap.size + 1 + 1) (sqC 0 0 0 0 none 0 0) 34 := by rw [← hW]; exact Blk.new' _ _ (by simp)
  have hb0 : Below w.heap.size w W := by rw [← hW]; exact (((Below.refl _ _).alloc (Nat.le_refl _) _).alloc (by simp) _).alloc (by simp; omega) _
  clear hW
  refine (C1.out W).mono ?_
  rintro e w1 ⟨rfl, hw⟩
  subst w1
  have FF : Hid (Blk _ _ _ _ ∧ Below w.heap.size w _) := qFill Z0 rfl hb0 (by omega) (.int .i64 0) (.int .i64 0) (.int .i64 0) (.int .i64 0) (.slice none 0 0)
  obtain ⟨⟨z0, z1, z2, z3, z4⟩, f0, f1, f2, f3, f4⟩ := Z0.five
  clear Z0 hb0
  go_wp2
  (try simp only [Exit.inBlock, Exit.then])
  refine bodyPost_ret (results_cell_two rfl _ _ (w.heap.size + 1 + 1) 34 _ (0, 0) _ rfl FF.out.1 Tryz.underlying34 rfl (by kernel_rfl)) rfl ?_
  exact SqAns.zero _ _ FF.out.2

set_option maxHeartbeats 1600000 in
theorem readAt_guess {s : ByteArray} {F : Nat → Option (Int × Nat)} (hF : IsCnt s F) (hr : rowOkB s = true) (p p2 : Nat) (md : Int) (m0 m1 m2 m3 : Int) (a : Option Addr) (n c : Nat) (k : Bool) (q : Int) (g x : Bool) (w : World) (h : F p = some (md, p2)) :
    Calls Tryz.prog 184 #[sqV m0 m1 m2 m3 a n c, .string s, .int .i64 (p : Int), conV k q g x] w fun e w' => SqAns w w' e 2 md 0 0 (lsL (rdM F (lrN g x) p2 (lrC g x))) (lsE (rdM F (lrN g x) p2 (lrC g x))) (lsY (rdM F (lrN g x) p2 (lrC g x))) := by
  have C1 : Hid (∀ w', Calls Tryz.prog 65 #[.int .i64 0, .string s, .int .i64 (p : Int)] w' fun e w'' => e = .returned (.tuple #[.int .i64 md, .int .i64 (p2 : Int), .bool true]) ∧ w'' = w') := fun w' => implUeF hF hr w' h
  have CL : Hid (∀ w', Calls Tryz.prog 118 #[.string s, .int .i64 (p2 : Int), conV k q g x] w' fun e w'' => (∃ v, e = .returned (.tuple #[v, .int .i64 (lsE (rdM F (lrN g x) p2 (lrC g x))), .bool (lsY (rdM F (lrN g x) p2 (lrC g x)))]) ∧ w''.ownsRow w'.heap.size 3 1 v (lsL (rdM F (lrN g x) p2 (lrC g x))).length ((lsL (rdM F (lrN g x) p2 (lrC g x))).map (Value.int .i64))) ∧ Below w'.heap.size w' w'') := fun w' => levelsAt_any hF hr p2 k q g x w' (hF.bd hr h).2.2
  clear hF hr h
  generalize rdM F (lrN g x) p2 (lrC g x) = st at *
  go_enter Tryz.func184, Tryz.ntmps184
  go_wp2_with fail
  generalize hW : World.alloc (World.alloc (World.alloc w _) _) _ = W
  have hs : W.heap.size = w.heap.size + 3 := by rw [← hW]; simp
  have P0 : Blk W (w.heap.size + 1) #[.bool k, .int .i64 q, .bool g, .bool x] 26 := by rw [← hW]; exact (Blk.new' _ _ (by simp)).alloc _
  have Z0 : Blk W (w.heap.size + 1 + 1) (sqC 0 0 0 0 none 0 0) 34 := by rw [← hW]; exact Blk.new' _ _ (by simp)
  have hb0 : Below w.heap.size w W := by rw [← hW]; exact (((Below.refl _ _).alloc (Nat.le_refl _) _).alloc (by simp) _).alloc (by simp; omega) _
  clear hW
  refine (C1.out W).mono ?_
  rintro e w1 ⟨rfl, hw⟩
  subst w1
  obtain ⟨⟨y0, y1, y2, y3⟩, _⟩ := P0.four
  go_wp2_with fail
  refine (CL.out W).mono ?_
  rintro e w3 ⟨⟨v, rfl, ho⟩, hc⟩
  have Z1 := Z0.below hc Z0.lt
  have hb1 := hb0.trans (hc.mono hb0.size)
  obtain ⟨pv, cv, rfl, _, _⟩ := ints_of_owns ho
  have FF : Hid (Blk _ _ _ _ ∧ Below w.heap.size w _) := qFill Z1 rfl hb1 (by omega) (.int .i64 2) (.int .i64 md) (.int .i64 0) (.int .i64 0) (.slice pv (lsL st).length cv)
  have FO : Hid (World.ownsRow _ _ _ _ _ _ _) := own_mono (B' := w.heap.size) (ownFill (g := w.heap.size + 1 + 1) ho (by omega) (.int .i64 2) (.int .i64 md) (.int .i64 0) (.int .i64 0) (.slice pv (lsL st).length cv)) (by omega)
  obtain ⟨⟨z0, z1, z2, z3, z4⟩, f0, f1, f2, f3, f4⟩ := Z1.five
  clear Z0 Z1 hb0 hb1 hc ho P0 y0 y1 y2 y3
  go_wp2
  (try simp only [Exit.inBlock, Exit.then])
  refine bodyPost_ret (results_cell_two rfl _ _ (w.heap.size + 1 + 1) 34 _ (0, 0) _ rfl FF.out.1 Tryz.underlying34 rfl (by kernel_rfl)) rfl ?_
  exact ⟨⟨_, _, rfl, FO.out⟩, FF.out.2⟩

set_option maxHeartbeats 800000 in
theorem readAt_move_no {s : ByteArray} {F : Nat → Option (Int × Nat)} (hF : IsCnt s F) (hr : rowOkB s = true) (p : Nat) (m0 m1 m2 m3 : Int) (a : Option Addr) (n c : Nat) (k : Bool) (q : Int) (g x : Bool) (w : World) (hp : p ≤ s.size) (h : F p = none) :
    Calls Tryz.prog 115 #[sqV m0 m1 m2 m3 a n c, .string s, .int .i64 (p : Int), conV k q g x] w fun e w' => SqAns w w' e 0 0 0 0 [] 0 false := by
  have C1 : Hid (∀ w', Calls Tryz.prog 65 #[.int .i64 1, .string s, .int .i64 (p : Int)] w' fun e w'' => e = .returned (.tuple #[.int .i64 0, .int .i64 0, .bool false]) ∧ w'' = w') := fun w' => implSeF_no hF hr w' hp h
  clear hF hr hp h
  go_enter Tryz.func115, Tryz.ntmps115
  go_wp2_with fail
  generalize hW : World.alloc (World.alloc (World.alloc w _) _) _ = W
  have hs : W.heap.size = w.heap.size + 3 := by rw [← hW]; simp
  have P0 : Blk W (w.heap.size + 1) #[.bool k, .int .i64 q, .bool g, .bool x] 26 := by rw [← hW]; exact (Blk.new' _ _ (by simp)).alloc _
  have Z0 : Blk W (w.heap.size + 1 + 1) (sqC 0 0 0 0 none 0 0) 34 := by rw [← hW]; exact Blk.new' _ _ (by simp)
  have hb0 : Below w.heap.size w W := by rw [← hW]; exact (((Below.refl _ _).alloc (Nat.le_refl _) _).alloc (by simp) _).alloc (by simp; omega) _
  clear hW
  refine (C1.out W).mono ?_
  rintro e w1 ⟨rfl, hw⟩
  subst w1
  have FF : Hid (Blk _ _ _ _ ∧ Below w.heap.size w _) := qFill Z0 rfl hb0 (by omega) (.int .i64 0) (.int .i64 0) (.int .i64 0) (.int .i64 0) (.slice none 0 0)
  obtain ⟨⟨z0, z1, z2, z3, z4⟩, f0, f1, f2, f3, f4⟩ := Z0.five
  clear Z0 hb0
  go_wp2
  (try simp only [Exit.inBlock, Exit.then])
  refine bodyPost_ret (results_cell_two rfl _ _ (w.heap.size + 1 + 1) 34 _ (0, 0) _ rfl FF.out.1 Tryz.underlying34 rfl (by kernel_rfl)) rfl ?_
  exact SqAns.zero _ _ FF.out.2

set_option maxHeartbeats 800000 in
theorem readAt_move_no2 {s : ByteArray} {F : Nat → Option (Int × Nat)} (hF : IsCnt s F) (hr : rowOkB s = true) (p p2 : Nat) (u : Int) (m0 m1 m2 m3 : Int) (a : Option Addr) (n c : Nat) (k : Bool) (q : Int) (g x : Bool) (w : World) (h : F p = some (u, p2)) (h2 : F p2 = none) :
    Calls Tryz.prog 115 #[sqV m0 m1 m2 m3 a n c, .string s, .int .i64 (p : Int), conV k q g x] w fun e w' => SqAns w w' e 0 0 0 0 [] 0 false := by
  have C1 : Hid (∀ w', Calls Tryz.prog 65 #[.int .i64 1, .string s, .int .i64 (p : Int)] w' fun e w'' => e = .returned (.tuple #[.int .i64 (seO u), .int .i64 (p2 : Int), .bool true]) ∧ w'' = w') := fun w' => implSeF hF hr w' h
  have C2 : Hid (∀ w', Calls Tryz.prog 65 #[.int .i64 1, .string s, .int .i64 (p2 : Int)] w' fun e w'' => e = .returned (.tuple #[.int .i64 0, .int .i64 0, .bool false]) ∧ w'' = w') := fun w' => implSeF_no hF hr w' (hF.bd hr h).2.2 h2
  clear hF hr h h2
  go_enter Tryz.func115, Tryz.ntmps115
  go_wp2_with fail
  generalize hW : World.alloc (World.alloc (World.alloc w _) _) _ = W
  have hs : W.heap.size = w.heap.size + 3 := by rw [← hW]; simp
  have P0 : Blk W (w.heap.size + 1) #[.bool k, .int .i64 q, .bool g, .bool x] 26 := by rw [← hW]; exact (Blk.new' _ _ (by simp)).alloc _
  have Z0 : Blk W (w.heap.size + 1 + 1) (sqC 0 0 0 0 none 0 0) 34 := by rw [← hW]; exact Blk.new' _ _ (by simp)
  have hb0 : Below w.heap.size w W := by rw [← hW]; exact (((Below.refl _ _).alloc (Nat.le_refl _) _).alloc (by simp) _).alloc (by simp; omega) _
  clear hW
  refine (C1.out W).mono ?_
  rintro e w1 ⟨rfl, hw⟩
  subst w1
  go_wp2_with fail
  refine (C2.out W).mono ?_
  rintro e w1 ⟨rfl, hw⟩
  subst w1
  have FF : Hid (Blk _ _ _ _ ∧ Below w.heap.size w _) := qFill Z0 rfl hb0 (by omega) (.int .i64 0) (.int .i64 0) (.int .i64 0) (.int .i64 0) (.slice none 0 0)
  obtain ⟨⟨z0, z1, z2, z3, z4⟩, f0, f1, f2, f3, f4⟩ := Z0.five
  clear Z0 hb0
  go_wp2
  (try simp only [Exit.inBlock, Exit.then])
  refine bodyPost_ret (results_cell_two rfl _ _ (w.heap.size + 1 + 1) 34 _ (0, 0) _ rfl FF.out.1 Tryz.underlying34 rfl (by kernel_rfl)) rfl ?_
  exact SqAns.zero _ _ FF.out.2

set_option maxHeartbeats 1600000 in
theorem readAt_move {s : ByteArray} {F : Nat → Option (Int × Nat)} (hF : IsCnt s F) (hr : rowOkB s = true) (p p2 p3 : Nat) (u v : Int) (m0 m1 m2 m3 : Int) (a : Option Addr) (n c : Nat) (k : Bool) (q : Int) (g x : Bool) (w : World) (h : F p = some (u, p2)) (h2 : F p2 = some (v, p3)) :
    Calls Tryz.prog 115 #[sqV m0 m1 m2 m3 a n c, .string s, .int .i64 (p : Int), conV k q g x] w fun e w' => SqAns w w' e 1 0 (seO u) (seO v) (lsL (rdM F (lrN g x) p3 (lrC g x))) (lsE (rdM F (lrN g x) p3 (lrC g x))) (lsY (rdM F (lrN g x) p3 (lrC g x))) := by
  have C1 : Hid (∀ w', Calls Tryz.prog 65 #[.int .i64 1, .string s, .int .i64 (p : Int)] w' fun e w'' => e = .returned (.tuple #[.int .i64 (seO u), .int .i64 (p2 : Int), .bool true]) ∧ w'' = w') := fun w' => implSeF hF hr w' h
  have C2 : Hid (∀ w', Calls Tryz.prog 65 #[.int .i64 1, .string s, .int .i64 (p2 : Int)] w' fun e w'' => e = .returned (.tuple #[.int .i64 (seO v), .int .i64 (p3 : Int), .bool true]) ∧ w'' = w') := fun w' => implSeF hF hr w' h2
  have CL : Hid (∀ w', Calls Tryz.prog 118 #[.string s, .int .i64 (p3 : Int), conV k q g x] w' fun e w'' => (∃ v, e = .returned (.tuple #[v, .int .i64 (lsE (rdM F (lrN g x) p3 (lrC g x))), .bool (lsY (rdM F (lrN g x) p3 (lrC g x)))]) ∧ w''.ownsRow w'.heap.size 3 1 v (lsL (rdM F (lrN g x) p3 (lrC g x))).length ((lsL (rdM F (lrN g x) p3 (lrC g x))).map (Value.int .i64))) ∧ Below w'.heap.size w' w'') := fun w' => levelsAt_any hF hr p3 k q g x w' (hF.bd hr h2).2.2
  clear hF hr h h2
  generalize rdM F (lrN g x) p3 (lrC g x) = st at *
  generalize seO u = ux at *
  generalize seO v = vx at *
  go_enter Tryz.func115, Tryz.ntmps115
  go_wp2_with fail
  generalize hW : World.alloc (World.alloc (World.alloc w _) _) _ = W
  have hs : W.heap.size = w.heap.size + 3 := by rw [← hW]; simp
  have P0 : Blk W (w.heap.size + 1) #[.bool k, .int .i64 q, .bool g, .bool x] 26 := by rw [← hW]; exact (Blk.new' _ _ (by simp)).alloc _
  have Z0 : Blk W (w.heap.size + 1 + 1) (sqC 0 0 0 0 none 0 0) 34 := by rw [← hW]; exact Blk.new' _ _ (by simp)
  have hb0 : Below w.heap.size w W := by rw [← hW]; exact (((Below.refl _ _).alloc (Nat.le_refl _) _).alloc (by simp) _).alloc (by simp; omega) _
  clear hW
  refine (C1.out W).mono ?_
  rintro e w1 ⟨rfl, hw⟩
  subst w1
  go_wp2_with fail
  refine (C2.out W).mono ?_
  rintro e w1 ⟨rfl, hw⟩
  subst w1
  obtain ⟨⟨y0, y1, y2, y3⟩, _⟩ := P0.four
  go_wp2_with fail
  refine (CL.out W).mono ?_
  rintro e w3 ⟨⟨v', rfl, ho⟩, hc⟩
  have Z1 := Z0.below hc Z0.lt
  have hb1 := hb0.trans (hc.mono hb0.size)
  obtain ⟨pv, cv, rfl, _, _⟩ := ints_of_owns ho
  have FF : Hid (Blk _ _ _ _ ∧ Below w.heap.size w _) := qFill Z1 rfl hb1 (by omega) (.int .i64 1) (.int .i64 0) (.int .i64 ux) (.int .i64 vx) (.slice pv (lsL st).length cv)
  have FO : Hid (World.ownsRow _ _ _ _ _ _ _) := own_mono (B' := w.heap.size) (ownFill (g := w.heap.size + 1 + 1) ho (by omega) (.int .i64 1) (.int .i64 0) (.int .i64 ux) (.int .i64 vx) (.slice pv (lsL st).length cv)) (by omega)
  obtain ⟨⟨z0, z1, z2, z3, z4⟩, f0, f1, f2, f3, f4⟩ := Z1.five
  clear Z0 Z1 hb0 hb1 hc ho P0 y0 y1 y2 y3
  go_wp2
  (try simp only [Exit.inBlock, Exit.then])
  refine bodyPost_ret (results_cell_two rfl _ _ (w.heap.size + 1 + 1) 34 _ (0, 0) _ rfl FF.out.1 Tryz.underlying34 rfl (by kernel_rfl)) rfl ?_
  exact ⟨⟨_, _, rfl, FO.out⟩, FF.out.2⟩

set_option maxHeartbeats 800000 in
theorem squareAt_none (s : ByteArray) (p : Nat) (k : Bool) (q : Int) (g x : Bool) (w : World)
    (HK : ∀ w', Calls Tryz.prog 54 #[.string s, .int .i64 (p : Int), conV k q g x] w' fun e w'' => (∃ z, e = .returned (.tuple #[.nilIface, .int .i64 z, .bool false])) ∧ Below w'.heap.size w' w'') :
    Calls Tryz.prog 34 #[.string s, .int .i64 (p : Int), conV k q g x] w fun e w' => SqAns w w' e 0 0 0 0 [] 0 false := by
  have C1 : Hid (∀ w', Calls Tryz.prog 54 #[.string s, .int .i64 (p : Int), conV k q g x] w' fun e w'' => (∃ z, e = .returned (.tuple #[.nilIface, .int .i64 z, .bool false])) ∧ Below w'.heap.size w' w'') := HK
  clear HK
  go_enter Tryz.func34, Tryz.ntmps34
  go_wp2_with fail
  generalize hW : World.alloc (World.alloc w _) _ = W
  have hs : W.heap.size = w.heap.size + 2 := by rw [← hW]; simp
  have P0 : Blk W w.heap.size #[.bool k, .int .i64 q, .bool g, .bool x] 26 := by rw [← hW]; exact (Blk.new w _ _).alloc _
  have Z0 : Blk W (w.heap.size + 1) (sqC 0 0 0 0 none 0 0) 34 := by rw [← hW]; exact Blk.new' _ _ (by simp)
  have hb0 : Below w.heap.size w W := by rw [← hW]; exact ((Below.refl _ _).alloc (Nat.le_refl _) _).alloc (by simp) _
  clear hW
  refine (C1.out W).mono ?_
  rintro e w1 ⟨⟨z, rfl⟩, hc⟩
  have Z1 := Z0.below hc Z0.lt
  have hb1 := hb0.trans (hc.mono hb0.size)
  clear Z0 hb0 hc P0
  have FF : Hid (Blk _ _ _ _ ∧ Below w.heap.size w _) := qFill Z1 rfl hb1 (by omega) (.int .i64 0) (.int .i64 0) (.int .i64 0) (.int .i64 0) (.slice none 0 0)
  obtain ⟨⟨z0, z1, z2, z3, z4⟩, f0, f1, f2, f3, f4⟩ := Z1.five
  clear Z1 hb1
  go_wp2
  (try simp only [Exit.inBlock, Exit.then])
  refine bodyPost_ret (results_cell_two rfl _ _ (w.heap.size + 1) 34 _ (0, 0) _ rfl FF.out.1 Tryz.underlying34 rfl (by kernel_rfl)) rfl ?_
  exact SqAns.zero _ _ FF.out.2

set_option maxHeartbeats 1600000 in
theorem squareAt_skip (s : ByteArray) (p p1 : Nat) (m kd md dx dy z : Int) (xs : List Int) (y : Bool) (k : Bool) (q : Int) (g x : Bool) (w : World) (hl : xs.length ≤ 64)
    (HK : ∀ w', Calls Tryz.prog 54 #[.string s, .int .i64 (p : Int), conV k q g x] w' fun e w'' => e = .returned (.tuple #[.iface 78 (sqV m 0 0 0 none 0 0), .int .i64 (p1 : Int), .bool true]) ∧ Below w'.heap.size w' w'')
    (HR : ∀ w', Calls Tryz.prog 112 #[sqV m 0 0 0 none 0 0, .string s, .int .i64 (p1 : Int), conV k q g x] w' fun e w'' => SqAns w' w'' e kd md dx dy xs z y) :
    Calls Tryz.prog 34 #[.string s, .int .i64 (p : Int), conV k q g x] w fun e w' => if (y && sqOkB kd md dx dy xs) = true then SqAns w w' e kd md dx dy xs z true else SqAns w w' e 0 0 0 0 [] 0 false := by
  have C1 : Hid (∀ w', Calls Tryz.prog 54 #[.string s, .int .i64 (p : Int), conV k q g x] w' fun e w'' => e = .returned (.tuple #[.iface 78 (sqV m 0 0 0 none 0 0), .int .i64 (p1 : Int), .bool true]) ∧ Below w'.heap.size w' w'') := HK
  have C2 : Hid (∀ w', Calls Tryz.prog 112 #[sqV m 0 0 0 none 0 0, .string s, .int .i64 (p1 : Int), conV k q g x] w' fun e w'' => (∃ p c, e = .returned (.tuple #[sqV kd md dx dy p xs.length c, .int .i64 z, .bool y]) ∧ w''.ownsRow w'.heap.size 3 1 (.slice p xs.length c) xs.length (xs.map (Value.int .i64))) ∧ Below w'.heap.size w' w'') := HR
  have C3 : Hid (∀ (a : Option Addr) (c : Nat) w', Ints w' a xs → Calls Tryz.prog 14 #[sqV kd md dx dy a xs.length c] w' fun e w'' => e = .returned (.bool (sqOkB kd md dx dy xs)) ∧ Below w'.heap.size w' w'') := fun a c w' hi => implSquareOk kd md dx dy a c xs w' hi (by unfold maxLen; omega)
  clear HK HR hl
  generalize sqOkB kd md dx dy xs = J at *
  go_enter Tryz.func34, Tryz.ntmps34
  go_wp2_with fail
  generalize hW : World.alloc (World.alloc w _) _ = W
  have hs : W.heap.size = w.heap.size + 2 := by rw [← hW]; simp
  have P0 : Blk W w.heap.size #[.bool k, .int .i64 q, .bool g, .bool x] 26 := by rw [← hW]; exact (Blk.new w _ _).alloc _
  have Z0 : Blk W (w.heap.size + 1) (sqC 0 0 0 0 none 0 0) 34 := by rw [← hW]; exact Blk.new' _ _ (by simp)
  have hb0 : Below w.heap.size w W := by rw [← hW]; exact ((Below.refl _ _).alloc (Nat.le_refl _) _).alloc (by simp) _
  clear hW
  refine (C1.out W).mono ?_
  rintro e w1 ⟨rfl, hc⟩
  have Z1 := Z0.below hc Z0.lt
  have P1 := P0.below hc P0.lt
  have hb1 := hb0.trans (hc.mono hb0.size)
  have hs1 : w.heap.size + 2 ≤ w1.heap.size := by have := hc.size; omega
  clear Z0 hb0 hc P0 hs
  obtain ⟨⟨y0, y1, y2, y3⟩, _⟩ := P1.four
  go_wp2_with fail
  refine (C2.out w1).mono ?_
  rintro e w2 ⟨⟨pv, cv, rfl, ho⟩, hc⟩
  have Z2 := Z1.below hc Z1.lt
  have hb2 := hb1.trans (hc.mono hb1.size)
  have hs2 : w.heap.size + 2 ≤ w2.heap.size := by have := hc.size; omega
  clear Z1 hb1 hc P1 y0 y1 y2 y3
  have HO : Hid (World.ownsRow w2 w1.heap.size 3 1 (.slice pv xs.length cv) xs.length (xs.map (Value.int .i64))) := ho
  clear ho
  have X3 : Blk (w2.alloc (.cells (sqC kd md dx dy pv xs.length cv) 34)) w2.heap.size _ _ := Blk.new w2 _ _
  have Z3 := Z2.alloc (.cells (sqC kd md dx dy pv xs.length cv) 34)
  have hb3 := hb2.alloc hb2.size (.cells (sqC kd md dx dy pv xs.length cv) 34)
  have HO3 : Hid (World.ownsRow (w2.alloc (.cells (sqC kd md dx dy pv xs.length cv) 34)) w1.heap.size 3 1 (.slice pv xs.length cv) xs.length (xs.map (Value.int .i64))) := HO.out.alloc _
  clear Z2 hb2 HO
  cases y
  case false =>
    have FF : Hid (Blk _ _ _ _ ∧ Below w.heap.size w _) := qFill Z3 rfl hb3 (by omega) (.int .i64 0) (.int .i64 0) (.int .i64 0) (.int .i64 0) (.slice none 0 0)
    obtain ⟨⟨z0, z1, z2, z3, z4⟩, f0, f1, f2, f3, f4⟩ := Z3.five
    clear Z3 hb3 HO3 X3 C3
    go_wp2
    (try simp only [Exit.inBlock, Exit.then])
    refine bodyPost_ret (results_cell_two rfl _ _ (w.heap.size + 1) 34 _ (0, 0) _ rfl FF.out.1 Tryz.underlying34 rfl (by kernel_rfl)) rfl ?_
    exact SqAns.zero _ _ FF.out.2
  case true =>
    obtain ⟨⟨x0, x1, x2, x3, x4⟩, _⟩ := X3.five
    go_wp2_with fail
    have hbs3 := hb3.size
    generalize w2.alloc (.cells (sqC kd md dx dy pv xs.length cv) 34) = w3 at *
    refine (C3.out pv cv w3 (owned_at HO3.out)).mono ?_
    rintro e w4 ⟨rfl, hc⟩
    have Z4 := Z3.below hc Z3.lt
    have X4 := X3.below hc X3.lt
    have hb4 := hb3.trans (hc.mono hbs3)
    have HO4 : Hid (World.ownsRow w4 w1.heap.size 3 1 (.slice pv xs.length cv) xs.length (xs.map (Value.int .i64))) := owned_below HO3.out hc
    clear Z3 X3 hb3 HO3 hc x0 x1 x2 x3 x4
    cases J
    case false =>
      have FF : Hid (Blk _ _ _ _ ∧ Below w.heap.size w _) := qFill Z4 rfl hb4 (by omega) (.int .i64 0) (.int .i64 0) (.int .i64 0) (.int .i64 0) (.slice none 0 0)
      obtain ⟨⟨z0, z1, z2, z3, z4⟩, f0, f1, f2, f3, f4⟩ := Z4.five
      clear Z4 hb4 HO4 X4
      go_wp2
      (try simp only [Exit.inBlock, Exit.then])
      refine bodyPost_ret (results_cell_two rfl _ _ (w.heap.size + 1) 34 _ (0, 0) _ rfl FF.out.1 Tryz.underlying34 rfl (by kernel_rfl)) rfl ?_
      exact SqAns.zero _ _ FF.out.2
    case true =>
      have FF : Hid (Blk _ _ _ _ ∧ Below w.heap.size w _) := qFill Z4 rfl hb4 (by omega) (.int .i64 kd) (.int .i64 md) (.int .i64 dx) (.int .i64 dy) (.slice pv xs.length cv)
      have FO : Hid (World.ownsRow _ _ _ _ _ _ _) := own_mono (B' := w.heap.size) (ownFill (g := w.heap.size + 1) HO4.out (by omega) (.int .i64 kd) (.int .i64 md) (.int .i64 dx) (.int .i64 dy) (.slice pv xs.length cv)) (by omega)
      obtain ⟨⟨z0, z1, z2, z3, z4⟩, f0, f1, f2, f3, f4⟩ := Z4.five
      obtain ⟨⟨x0, x1, x2, x3, x4⟩, _⟩ := X4.five
      have hne : ¬ w2.heap.size = w.heap.size + 1 := by omega
      clear Z4 X4 hb4 HO4
      go_wp2
      (try simp only [Exit.inBlock, Exit.then])
      refine bodyPost_ret (results_cell_two rfl _ _ (w.heap.size + 1) 34 _ (0, 0) _ rfl FF.out.1 Tryz.underlying34 rfl (by kernel_rfl)) rfl ?_
      exact ⟨⟨_, _, rfl, FO.out⟩, FF.out.2⟩

set_option maxHeartbeats 1600000 in
theorem squareAt_move (s : ByteArray) (p p1 : Nat) (m kd md dx dy z : Int) (xs : List Int) (y : Bool) (k : Bool) (q : Int) (g x : Bool) (w : World) (hl : xs.length ≤ 64)
    (HK : ∀ w', Calls Tryz.prog 54 #[.string s, .int .i64 (p : Int), conV k q g x] w' fun e w'' => e = .returned (.tuple #[.iface 79 (sqV m 0 0 0 none 0 0), .int .i64 (p1 : Int), .bool true]) ∧ Below w'.heap.size w' w'')
    (HR : ∀ w', Calls Tryz.prog 115 #[sqV m 0 0 0 none 0 0, .string s, .int .i64 (p1 : Int), conV k q g x] w' fun e w'' => SqAns w' w'' e kd md dx dy xs z y) :
    Calls Tryz.prog 34 #[.string s, .int .i64 (p : Int), conV k q g x] w fun e w' => if (y && sqOkB kd md dx dy xs) = true then SqAns w w' e kd md dx dy xs z true else SqAns w w' e 0 0 0 0 [] 0 false := by
  have C1 : Hid (∀ w', Calls Tryz.prog 54 #[.string s, .int .i64 (p : Int), conV k q g x] w' fun e w'' => e = .returned (.tuple #[.iface 79 (sqV m 0 0 0 none 0 0), .int .i64 (p1 : Int), .bool true]) ∧ Below w'.heap.size w' w'') := HK
  have C2 : Hid (∀ w', Calls Tryz.prog 115 #[sqV m 0 0 0 none 0 0, .string s, .int .i64 (p1 : Int), conV k q g x] w' fun e w'' => (∃ p c, e = .returned (.tuple #[sqV kd md dx dy p xs.length c, .int .i64 z, .bool y]) ∧ w''.ownsRow w'.heap.size 3 1 (.slice p xs.length c) xs.length (xs.map (Value.int .i64))) ∧ Below w'.heap.size w' w'') := HR
  have C3 : Hid (∀ (a : Option Addr) (c : Nat) w', Ints w' a xs → Calls Tryz.prog 14 #[sqV kd md dx dy a xs.length c] w' fun e w'' => e = .returned (.bool (sqOkB kd md dx dy xs)) ∧ Below w'.heap.size w' w'') := fun a c w' hi => implSquareOk kd md dx dy a c xs w' hi (by unfold maxLen; omega)
  clear HK HR hl
  generalize sqOkB kd md dx dy xs = J at *
  go_enter Tryz.func34, Tryz.ntmps34
  go_wp2_with fail
  generalize hW : World.alloc (World.alloc w _) _ = W
  have hs : W.heap.size = w.heap.size + 2 := by rw [← hW]; simp
  have P0 : Blk W w.heap.size #[.bool k, .int .i64 q, .bool g, .bool x] 26 := by rw [← hW]; exact (Blk.new w _ _).alloc _
  have Z0 : Blk W (w.heap.size + 1) (sqC 0 0 0 0 none 0 0) 34 := by rw [← hW]; exact Blk.new' _ _ (by simp)
  have hb0 : Below w.heap.size w W := by rw [← hW]; exact ((Below.refl _ _).alloc (Nat.le_refl _) _).alloc (by simp) _
  clear hW
  refine (C1.out W).mono ?_
  rintro e w1 ⟨rfl, hc⟩
  have Z1 := Z0.below hc Z0.lt
  have P1 := P0.below hc P0.lt
  have hb1 := hb0.trans (hc.mono hb0.size)
  have hs1 : w.heap.size + 2 ≤ w1.heap.size := by have := hc.size; omega
  clear Z0 hb0 hc P0 hs
  obtain ⟨⟨y0, y1, y2, y3⟩, _⟩ := P1.four
  go_wp2_with fail
  refine (C2.out w1).mono ?_
  rintro e w2 ⟨⟨pv, cv, rfl, ho⟩, hc⟩
  have Z2 := Z1.below hc Z1.lt
  have hb2 := hb1.trans (hc.mono hb1.size)
  have hs2 : w.heap.size + 2 ≤ w2.heap.size := by have := hc.size; omega
  clear Z1 hb1 hc P1 y0 y1 y2 y3
  have HO : Hid (World.ownsRow w2 w1.heap.size 3 1 (.slice pv xs.length cv) xs.length (xs.map (Value.int .i64))) := ho
  clear ho
  have X3 : Blk (w2.alloc (.cells (sqC kd md dx dy pv xs.length cv) 34)) w2.heap.size _ _ := Blk.new w2 _ _
  have Z3 := Z2.alloc (.cells (sqC kd md dx dy pv xs.length cv) 34)
  have hb3 := hb2.alloc hb2.size (.cells (sqC kd md dx dy pv xs.length cv) 34)
  have HO3 : Hid (World.ownsRow (w2.alloc (.cells (sqC kd md dx dy pv xs.length cv) 34)) w1.heap.size 3 1 (.slice pv xs.length cv) xs.length (xs.map (Value.int .i64))) := HO.out.alloc _
  clear Z2 hb2 HO
  cases y
  case false =>
    have FF : Hid (Blk _ _ _ _ ∧ Below w.heap.size w _) := qFill Z3 rfl hb3 (by omega) (.int .i64 0) (.int .i64 0) (.int .i64 0) (.int .i64 0) (.slice none 0 0)
    obtain ⟨⟨z0, z1, z2, z3, z4⟩, f0, f1, f2, f3, f4⟩ := Z3.five
    clear Z3 hb3 HO3 X3 C3
    go_wp2
    (try simp only [Exit.inBlock, Exit.then])
    refine bodyPost_ret (results_cell_two rfl _ _ (w.heap.size + 1) 34 _ (0, 0) _ rfl FF.out.1 Tryz.underlying34 rfl (by kernel_rfl)) rfl ?_
    exact SqAns.zero _ _ FF.out.2
  case true =>
    obtain ⟨⟨x0, x1, x2, x3, x4⟩, _⟩ := X3.five
    go_wp2_with fail
    have hbs3 := hb3.size
    generalize w2.alloc (.cells (sqC kd md dx dy pv xs.length cv) 34) = w3 at *
    refine (C3.out pv cv w3 (owned_at HO3.out)).mono ?_
    rintro e w4 ⟨rfl, hc⟩
    have Z4 := Z3.below hc Z3.lt
    have X4 := X3.below hc X3.lt
    have hb4 := hb3.trans (hc.mono hbs3)
    have HO4 : Hid (World.ownsRow w4 w1.heap.size 3 1 (.slice pv xs.length cv) xs.length (xs.map (Value.int .i64))) := owned_below HO3.out hc
    clear Z3 X3 hb3 HO3 hc x0 x1 x2 x3 x4
    cases J
    case false =>
      have FF : Hid (Blk _ _ _ _ ∧ Below w.heap.size w _) := qFill Z4 rfl hb4 (by omega) (.int .i64 0) (.int .i64 0) (.int .i64 0) (.int .i64 0) (.slice none 0 0)
      obtain ⟨⟨z0, z1, z2, z3, z4⟩, f0, f1, f2, f3, f4⟩ := Z4.five
      clear Z4 hb4 HO4 X4
      go_wp2
      (try simp only [Exit.inBlock, Exit.then])
      refine bodyPost_ret (results_cell_two rfl _ _ (w.heap.size + 1) 34 _ (0, 0) _ rfl FF.out.1 Tryz.underlying34 rfl (by kernel_rfl)) rfl ?_
      exact SqAns.zero _ _ FF.out.2
    case true =>
      have FF : Hid (Blk _ _ _ _ ∧ Below w.heap.size w _) := qFill Z4 rfl hb4 (by omega) (.int .i64 kd) (.int .i64 md) (.int .i64 dx) (.int .i64 dy) (.slice pv xs.length cv)
      have FO : Hid (World.ownsRow _ _ _ _ _ _ _) := own_mono (B' := w.heap.size) (ownFill (g := w.heap.size + 1) HO4.out (by omega) (.int .i64 kd) (.int .i64 md) (.int .i64 dx) (.int .i64 dy) (.slice pv xs.length cv)) (by omega)
      obtain ⟨⟨z0, z1, z2, z3, z4⟩, f0, f1, f2, f3, f4⟩ := Z4.five
      obtain ⟨⟨x0, x1, x2, x3, x4⟩, _⟩ := X4.five
      have hne : ¬ w2.heap.size = w.heap.size + 1 := by omega
      clear Z4 X4 hb4 HO4
      go_wp2
      (try simp only [Exit.inBlock, Exit.then])
      refine bodyPost_ret (results_cell_two rfl _ _ (w.heap.size + 1) 34 _ (0, 0) _ rfl FF.out.1 Tryz.underlying34 rfl (by kernel_rfl)) rfl ?_
      exact ⟨⟨_, _, rfl, FO.out⟩, FF.out.2⟩

set_option maxHeartbeats 1600000 in
theorem squareAt_guess (s : ByteArray) (p p1 : Nat) (m kd md dx dy z : Int) (xs : List Int) (y : Bool) (k : Bool) (q : Int) (g x : Bool) (w : World) (hl : xs.length ≤ 64)
    (HK : ∀ w', Calls Tryz.prog 54 #[.string s, .int .i64 (p : Int), conV k q g x] w' fun e w'' => e = .returned (.tuple #[.iface 80 (sqV m 0 0 0 none 0 0), .int .i64 (p1 : Int), .bool true]) ∧ Below w'.heap.size w' w'')
    (HR : ∀ w', Calls Tryz.prog 184 #[sqV m 0 0 0 none 0 0, .string s, .int .i64 (p1 : Int), conV k q g x] w' fun e w'' => SqAns w' w'' e kd md dx dy xs z y) :
    Calls Tryz.prog 34 #[.string s, .int .i64 (p : Int), conV k q g x] w fun e w' => if (y && sqOkB kd md dx dy xs) = true then SqAns w w' e kd md dx dy xs z true else SqAns w w' e 0 0 0 0 [] 0 false := by
  have C1 : Hid (∀ w', Calls Tryz.prog 54 #[.string s, .int .i64 (p : Int), conV k q g x] w' fun e w'' => e = .returned (.tuple #[.iface 80 (sqV m 0 0 0 none 0 0), .int .i64 (p1 : Int), .bool true]) ∧ Below w'.heap.size w' w'') := HK
  have C2 : Hid (∀ w', Calls Tryz.prog 184 #[sqV m 0 0 0 none 0 0, .string s, .int .i64 (p1 : Int), conV k q g x] w' fun e w'' => (∃ p c, e = .returned (.tuple #[sqV kd md dx dy p xs.length c, .int .i64 z, .bool y]) ∧ w''.ownsRow w'.heap.size 3 1 (.slice p xs.length c) xs.length (xs.map (Value.int .i64))) ∧ Below w'.heap.size w' w'') := HR
  have C3 : Hid (∀ (a : Option Addr) (c : Nat) w', Ints w' a xs → Calls Tryz.prog 14 #[sqV kd md dx dy a xs.length c] w' fun e w'' => e = .returned (.bool (sqOkB kd md dx dy xs)) ∧ Below w'.heap.size w' w'') := fun a c w' hi => implSquareOk kd md dx dy a c xs w' hi (by unfold maxLen; omega)
  clear HK HR hl
  generalize sqOkB kd md dx dy xs = J at *
  go_enter Tryz.func34, Tryz.ntmps34
  go_wp2_with fail
  generalize hW : World.alloc (World.alloc w _) _ = W
  have hs : W.heap.size = w.heap.size + 2 := by rw [← hW]; simp
  have P0 : Blk W w.heap.size #[.bool k, .int .i64 q, .bool g, .bool x] 26 := by rw [← hW]; exact (Blk.new w _ _).alloc _
  have Z0 : Blk W (w.heap.size + 1) (sqC 0 0 0 0 none 0 0) 34 := by rw [← hW]; exact Blk.new' _ _ (by simp)
  have hb0 : Below w.heap.size w W := by rw [← hW]; exact ((Below.refl _ _).alloc (Nat.le_refl _) _).alloc (by simp) _
  clear hW
  refine (C1.out W).mono ?_
  rintro e w1 ⟨rfl, hc⟩
  have Z1 := Z0.below hc Z0.lt
  have P1 := P0.below hc P0.lt
  have hb1 := hb0.trans (hc.mono hb0.size)
  have hs1 : w.heap.size + 2 ≤ w1.heap.size := by have := hc.size; omega
  clear Z0 hb0 hc P0 hs
  obtain ⟨⟨y0, y1, y2, y3⟩, _⟩ := P1.four
  go_wp2_with fail
  refine (C2.out w1).mono ?_
  rintro e w2 ⟨⟨pv, cv, rfl, ho⟩, hc⟩
  have Z2 := Z1.below hc Z1.lt
  have hb2 := hb1.trans (hc.mono hb1.size)
  have hs2 : w.heap.size + 2 ≤ w2.heap.size := by have := hc.size; omega
  clear Z1 hb1 hc P1 y0 y1 y2 y3
  have HO : Hid (World.ownsRow w2 w1.heap.size 3 1 (.slice pv xs.length cv) xs.length (xs.map (Value.int .i64))) := ho
  clear ho
  have X3 : Blk (w2.alloc (.cells (sqC kd md dx dy pv xs.length cv) 34)) w2.heap.size _ _ := Blk.new w2 _ _
  have Z3 := Z2.alloc (.cells (sqC kd md dx dy pv xs.length cv) 34)
  have hb3 := hb2.alloc hb2.size (.cells (sqC kd md dx dy pv xs.length cv) 34)
  have HO3 : Hid (World.ownsRow (w2.alloc (.cells (sqC kd md dx dy pv xs.length cv) 34)) w1.heap.size 3 1 (.slice pv xs.length cv) xs.length (xs.map (Value.int .i64))) := HO.out.alloc _
  clear Z2 hb2 HO
  cases y
  case false =>
    have FF : Hid (Blk _ _ _ _ ∧ Below w.heap.size w _) := qFill Z3 rfl hb3 (by omega) (.int .i64 0) (.int .i64 0) (.int .i64 0) (.int .i64 0) (.slice none 0 0)
    obtain ⟨⟨z0, z1, z2, z3, z4⟩, f0, f1, f2, f3, f4⟩ := Z3.five
    clear Z3 hb3 HO3 X3 C3
    go_wp2
    (try simp only [Exit.inBlock, Exit.then])
    refine bodyPost_ret (results_cell_two rfl _ _ (w.heap.size + 1) 34 _ (0, 0) _ rfl FF.out.1 Tryz.underlying34 rfl (by kernel_rfl)) rfl ?_
    exact SqAns.zero _ _ FF.out.2
  case true =>
    obtain ⟨⟨x0, x1, x2, x3, x4⟩, _⟩ := X3.five
    go_wp2_with fail
    have hbs3 := hb3.size
    generalize w2.alloc (.cells (sqC kd md dx dy pv xs.length cv) 34) = w3 at *
    refine (C3.out pv cv w3 (owned_at HO3.out)).mono ?_
    rintro e w4 ⟨rfl, hc⟩
    have Z4 := Z3.below hc Z3.lt
    have X4 := X3.below hc X3.lt
    have hb4 := hb3.trans (hc.mono hbs3)
    have HO4 : Hid (World.ownsRow w4 w1.heap.size 3 1 (.slice pv xs.length cv) xs.length (xs.map (Value.int .i64))) := owned_below HO3.out hc
    clear Z3 X3 hb3 HO3 hc x0 x1 x2 x3 x4
    cases J
    case false =>
      have FF : Hid (Blk _ _ _ _ ∧ Below w.heap.size w _) := qFill Z4 rfl hb4 (by omega) (.int .i64 0) (.int .i64 0) (.int .i64 0) (.int .i64 0) (.slice none 0 0)
      obtain ⟨⟨z0, z1, z2, z3, z4⟩, f0, f1, f2, f3, f4⟩ := Z4.five
      clear Z4 hb4 HO4 X4
      go_wp2
      (try simp only [Exit.inBlock, Exit.then])
      refine bodyPost_ret (results_cell_two rfl _ _ (w.heap.size + 1) 34 _ (0, 0) _ rfl FF.out.1 Tryz.underlying34 rfl (by kernel_rfl)) rfl ?_
      exact SqAns.zero _ _ FF.out.2
    case true =>
      have FF : Hid (Blk _ _ _ _ ∧ Below w.heap.size w _) := qFill Z4 rfl hb4 (by omega) (.int .i64 kd) (.int .i64 md) (.int .i64 dx) (.int .i64 dy) (.slice pv xs.length cv)
      have FO : Hid (World.ownsRow _ _ _ _ _ _ _) := own_mono (B' := w.heap.size) (ownFill (g := w.heap.size + 1) HO4.out (by omega) (.int .i64 kd) (.int .i64 md) (.int .i64 dx) (.int .i64 dy) (.slice pv xs.length cv)) (by omega)
      obtain ⟨⟨z0, z1, z2, z3, z4⟩, f0, f1, f2, f3, f4⟩ := Z4.five
      obtain ⟨⟨x0, x1, x2, x3, x4⟩, _⟩ := X4.five
      have hne : ¬ w2.heap.size = w.heap.size + 1 := by omega
      clear Z4 X4 hb4 HO4
      go_wp2
      (try simp only [Exit.inBlock, Exit.then])
      refine bodyPost_ret (results_cell_two rfl _ _ (w.heap.size + 1) 34 _ (0, 0) _ rfl FF.out.1 Tryz.underlying34 rfl (by kernel_rfl)) rfl ?_
      exact ⟨⟨_, _, rfl, FO.out⟩, FF.out.2⟩
end Go.Proofs.YtnlbigjfnjcldaaGreat
