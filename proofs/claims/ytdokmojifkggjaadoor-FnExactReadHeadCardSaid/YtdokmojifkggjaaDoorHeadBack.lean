/-
  The walk of spec.ReadHead: the head at a row's beginning.
-/
import Derived.Test.YtdokmojifkggjaaDoorHeadRead
namespace Go.Proofs.YtdokmojifkggjaaDoor
open Go.RowKit
set_option linter.unusedVariables false
set_option maxRecDepth 20000

set_option maxHeartbeats 1600000 in
theorem specReadHead_row (l b : Int) (a1 a2 : Option Addr) (c1 c2 : Nat) (xs ys : List Int) (q : Int) (g x c : Bool) (s : ByteArray) (w : World) (h : SetIn w a1 a2 xs ys) (hm : s.size ≤ maxLen) (hr : rowOkB s = false) :
    Calls Tryd.prog 22 #[.agg #[.int .i64 l, .int .i64 b, .slice a1 xs.length c1, .slice a2 ys.length c2], .agg #[.int .i64 q, .bool g, .bool x, .bool c], .string s] w fun e w' => e = .returned (hdV 0 0 0 0 false) ∧ Below w.heap.size w w' := by
  have HR : Hid (∀ w', Calls Tryd.prog 50 #[.string s] w' fun e w'' => e = .returned (.bool false) ∧ w'' = w') := fun w' => by rw [← hr]; exact specRowOk s w' hm
  clear hr hm h
  go_enter Tryd.func22, Tryd.ntmps22
  go_wp2_with fail
  generalize hW : World.alloc (World.alloc (World.alloc w _) _) _ = W
  have hs : W.heap.size = w.heap.size + 3 := by rw [← hW]; simp
  have S0 : Blk W w.heap.size #[.int .i64 l, .int .i64 b, .slice a1 xs.length c1, .slice a2 ys.length c2] 26 := by rw [← hW]; exact ((Blk.new w _ _).alloc _).alloc _
  have P0 : Blk W (w.heap.size + 1) #[.int .i64 q, .bool g, .bool x, .bool c] 28 := by rw [← hW]; exact (Blk.new' _ _ (by simp)).alloc _
  have Z0 : Blk W (w.heap.size + 1 + 1) #[.int .i64 0, .int .i64 0, .int .i64 0] 30 := by rw [← hW]; exact Blk.new' _ _ (by simp)
  have hb0 : Below w.heap.size w W := by rw [← hW]; exact (((Below.refl _ _).alloc (Nat.le_refl _) _).alloc (by simp) _).alloc (by simp; omega) _
  clear hW
  refine (HR.out W).mono ?_
  rintro e w1 ⟨rfl, hw⟩
  subst w1
  clear S0 P0
  have FF : Hid (Blk _ _ _ _ ∧ Below w.heap.size w _) := zFill Z0 hb0 (by omega) 0 0 0
  obtain ⟨⟨z0, z1, z2⟩, f0, f1, f2⟩ := Z0.three
  clear Z0 hb0
  go_wp2
  (try simp only [Exit.inBlock, Exit.then])
  refine bodyPost_ret (results_cell_two rfl _ _ (w.heap.size + 1 + 1) 30 _ (0, 0) _ rfl FF.out.1 Tryd.underlying30 rfl (by kernel_rfl)) rfl ?_
  exact ⟨rfl, FF.out.2⟩

set_option maxHeartbeats 1600000 in
theorem specReadHead_seq (l b : Int) (a1 a2 : Option Addr) (c1 c2 : Nat) (xs ys : List Int) (q : Int) (g x c : Bool) (s : ByteArray) (w : World) (h : SetIn w a1 a2 xs ys) (hm : s.size ≤ maxLen) (hr : rowOkB s = true) (hq : seqB l b xs ys = false) :
    Calls Tryd.prog 22 #[.agg #[.int .i64 l, .int .i64 b, .slice a1 xs.length c1, .slice a2 ys.length c2], .agg #[.int .i64 q, .bool g, .bool x, .bool c], .string s] w fun e w' => e = .returned (hdV 0 0 0 0 false) ∧ Below w.heap.size w w' := by
  have HR : Hid (∀ w', Calls Tryd.prog 50 #[.string s] w' fun e w'' => e = .returned (.bool true) ∧ w'' = w') := fun w' => by rw [← hr]; exact specRowOk s w' hm
  have HQ : Hid (∀ w', Below w.heap.size w w' → Calls Tryd.prog 51 #[.agg #[.int .i64 l, .int .i64 b, .slice a1 xs.length c1, .slice a2 ys.length c2]] w' fun e w'' => e = .returned (.bool false) ∧ Below w'.heap.size w' w'') := fun w' hb => by
    have hw := h.below hb (Nat.le_refl _)
    rw [← hq]; exact specSeqOk l b a1 a2 c1 c2 xs ys w' hw.1.1 hw.1.2.1 hw.2.1 hw.2.2
  clear hr hm h hq
  go_enter Tryd.func22, Tryd.ntmps22
  go_wp2_with fail
  generalize hW : World.alloc (World.alloc (World.alloc w _) _) _ = W
  have hs : W.heap.size = w.heap.size + 3 := by rw [← hW]; simp
  have S0 : Blk W w.heap.size #[.int .i64 l, .int .i64 b, .slice a1 xs.length c1, .slice a2 ys.length c2] 26 := by rw [← hW]; exact ((Blk.new w _ _).alloc _).alloc _
  have P0 : Blk W (w.heap.size + 1) #[.int .i64 q, .bool g, .bool x, .bool c] 28 := by rw [← hW]; exact (Blk.new' _ _ (by simp)).alloc _
  have Z0 : Blk W (w.heap.size + 1 + 1) #[.int .i64 0, .int .i64 0, .int .i64 0] 30 := by rw [← hW]; exact Blk.new' _ _ (by simp)
  have hb0 : Below w.heap.size w W := by rw [← hW]; exact (((Below.refl _ _).alloc (Nat.le_refl _) _).alloc (by simp) _).alloc (by simp; omega) _
  clear hW
  refine (HR.out W).mono ?_
  rintro e w1 ⟨rfl, hw⟩
  subst w1
  obtain ⟨⟨s0, s1, s2, s3⟩, _⟩ := S0.four
  go_wp2_with fail
  refine (HQ.out W hb0).mono ?_
  rintro e w1 ⟨rfl, hc⟩
  have hb1 := hb0.trans (hc.mono hb0.size)
  have S1 := S0.below hc S0.lt
  have P1 := P0.below hc P0.lt
  have Z1 := Z0.below hc Z0.lt
  have g1 : w.heap.size + 1 + 1 < w1.heap.size := by have := hc.size; omega
  clear hc hb0 S0 P0 Z0 s0 s1 s2 s3
  obtain ⟨⟨p0, p1, p2, p3⟩, _⟩ := P1.four
  clear S1 P1 p0 p1 p2 p3
  have FF : Hid (Blk _ _ _ _ ∧ Below w.heap.size w _) := zFill Z1 hb1 (by omega) 0 0 0
  obtain ⟨⟨z0, z1, z2⟩, f0, f1, f2⟩ := Z1.three
  clear Z1 hb1
  go_wp2
  (try simp only [Exit.inBlock, Exit.then])
  refine bodyPost_ret (results_cell_two rfl _ _ (w.heap.size + 1 + 1) 30 _ (0, 0) _ rfl FF.out.1 Tryd.underlying30 rfl (by kernel_rfl)) rfl ?_
  exact ⟨rfl, FF.out.2⟩

set_option maxHeartbeats 1600000 in
theorem specReadHead_par (l b : Int) (a1 a2 : Option Addr) (c1 c2 : Nat) (xs ys : List Int) (q : Int) (g x c : Bool) (s : ByteArray) (w : World) (h : SetIn w a1 a2 xs ys) (hm : s.size ≤ maxLen) (hr : rowOkB s = true) (hq : seqB l b xs ys = true) (hp : parB q g x = false) :
    Calls Tryd.prog 22 #[.agg #[.int .i64 l, .int .i64 b, .slice a1 xs.length c1, .slice a2 ys.length c2], .agg #[.int .i64 q, .bool g, .bool x, .bool c], .string s] w fun e w' => e = .returned (hdV 0 0 0 0 false) ∧ Below w.heap.size w w' := by
  have HR : Hid (∀ w', Calls Tryd.prog 50 #[.string s] w' fun e w'' => e = .returned (.bool true) ∧ w'' = w') := fun w' => by rw [← hr]; exact specRowOk s w' hm
  have HQ : Hid (∀ w', Below w.heap.size w w' → Calls Tryd.prog 51 #[.agg #[.int .i64 l, .int .i64 b, .slice a1 xs.length c1, .slice a2 ys.length c2]] w' fun e w'' => e = .returned (.bool true) ∧ Below w'.heap.size w' w'') := fun w' hb => by
    have hw := h.below hb (Nat.le_refl _)
    rw [← hq]; exact specSeqOk l b a1 a2 c1 c2 xs ys w' hw.1.1 hw.1.2.1 hw.2.1 hw.2.2
  have HP : Hid (∀ w', Calls Tryd.prog 42 #[.agg #[.int .i64 q, .bool g, .bool x, .bool c]] w' fun e w'' => e = .returned (.bool false) ∧ Below w'.heap.size w' w'') := fun w' => by rw [← hp]; exact specParOk q g x c w'
  clear hr hm h hq hp
  go_enter Tryd.func22, Tryd.ntmps22
  go_wp2_with fail
  generalize hW : World.alloc (World.alloc (World.alloc w _) _) _ = W
  have hs : W.heap.size = w.heap.size + 3 := by rw [← hW]; simp
  have S0 : Blk W w.heap.size #[.int .i64 l, .int .i64 b, .slice a1 xs.length c1, .slice a2 ys.length c2] 26 := by rw [← hW]; exact ((Blk.new w _ _).alloc _).alloc _
  have P0 : Blk W (w.heap.size + 1) #[.int .i64 q, .bool g, .bool x, .bool c] 28 := by rw [← hW]; exact (Blk.new' _ _ (by simp)).alloc _
  have Z0 : Blk W (w.heap.size + 1 + 1) #[.int .i64 0, .int .i64 0, .int .i64 0] 30 := by rw [← hW]; exact Blk.new' _ _ (by simp)
  have hb0 : Below w.heap.size w W := by rw [← hW]; exact (((Below.refl _ _).alloc (Nat.le_refl _) _).alloc (by simp) _).alloc (by simp; omega) _
  clear hW
  refine (HR.out W).mono ?_
  rintro e w1 ⟨rfl, hw⟩
  subst w1
  obtain ⟨⟨s0, s1, s2, s3⟩, _⟩ := S0.four
  go_wp2_with fail
  refine (HQ.out W hb0).mono ?_
  rintro e w1 ⟨rfl, hc⟩
  have hb1 := hb0.trans (hc.mono hb0.size)
  have S1 := S0.below hc S0.lt
  have P1 := P0.below hc P0.lt
  have Z1 := Z0.below hc Z0.lt
  have g1 : w.heap.size + 1 + 1 < w1.heap.size := by have := hc.size; omega
  clear hc hb0 S0 P0 Z0 s0 s1 s2 s3
  obtain ⟨⟨p0, p1, p2, p3⟩, _⟩ := P1.four
  go_wp2_with fail
  refine (HP.out w1).mono ?_
  rintro e w2 ⟨rfl, hc⟩
  have hb2 := hb1.trans (hc.mono hb1.size)
  have S2 := S1.below hc S1.lt
  have P2 := P1.below hc P1.lt
  have Z2 := Z1.below hc Z1.lt
  have g2 : w.heap.size + 1 + 1 < w2.heap.size := by have := hc.size; omega
  clear hc hb1 S1 P1 Z1 p0 p1 p2 p3 g1
  obtain ⟨⟨s0, s1, s2, s3⟩, _⟩ := S2.four
  obtain ⟨⟨p0, p1, p2, p3⟩, _⟩ := P2.four
  clear S2 P2 s0 s1 s2 s3 p0 p1 p2 p3
  have FF : Hid (Blk _ _ _ _ ∧ Below w.heap.size w _) := zFill Z2 hb2 (by omega) 0 0 0
  obtain ⟨⟨z0, z1, z2⟩, f0, f1, f2⟩ := Z2.three
  clear Z2 hb2
  go_wp2
  (try simp only [Exit.inBlock, Exit.then])
  refine bodyPost_ret (results_cell_two rfl _ _ (w.heap.size + 1 + 1) 30 _ (0, 0) _ rfl FF.out.1 Tryd.underlying30 rfl (by kernel_rfl)) rfl ?_
  exact ⟨rfl, FF.out.2⟩

set_option maxHeartbeats 1600000 in
theorem specReadHead_no1 (l b : Int) (a1 a2 : Option Addr) (c1 c2 : Nat) (xs ys : List Int) (q : Int) (g x c : Bool) (s : ByteArray) (w : World) (h : SetIn w a1 a2 xs ys) (hm : s.size ≤ maxLen) (hr : rowOkB s = true) (hq : seqB l b xs ys = true) (hp : parB q g x = true) (n1 e1 : Int) (C1 : Hid (Ans 52 #[.string s, .int .i64 0] n1 e1 false)) :
    Calls Tryd.prog 22 #[.agg #[.int .i64 l, .int .i64 b, .slice a1 xs.length c1, .slice a2 ys.length c2], .agg #[.int .i64 q, .bool g, .bool x, .bool c], .string s] w fun e w' => e = .returned (hdV 0 0 0 0 false) ∧ Below w.heap.size w w' := by
  have HR : Hid (∀ w', Calls Tryd.prog 50 #[.string s] w' fun e w'' => e = .returned (.bool true) ∧ w'' = w') := fun w' => by rw [← hr]; exact specRowOk s w' hm
  have HQ : Hid (∀ w', Below w.heap.size w w' → Calls Tryd.prog 51 #[.agg #[.int .i64 l, .int .i64 b, .slice a1 xs.length c1, .slice a2 ys.length c2]] w' fun e w'' => e = .returned (.bool true) ∧ Below w'.heap.size w' w'') := fun w' hb => by
    have hw := h.below hb (Nat.le_refl _)
    rw [← hq]; exact specSeqOk l b a1 a2 c1 c2 xs ys w' hw.1.1 hw.1.2.1 hw.2.1 hw.2.2
  have HP : Hid (∀ w', Calls Tryd.prog 42 #[.agg #[.int .i64 q, .bool g, .bool x, .bool c]] w' fun e w'' => e = .returned (.bool true) ∧ Below w'.heap.size w' w'') := fun w' => by rw [← hp]; exact specParOk q g x c w'
  clear hr hm h hq hp
  go_enter Tryd.func22, Tryd.ntmps22
  go_wp2_with fail
  generalize hW : World.alloc (World.alloc (World.alloc w _) _) _ = W
  have hs : W.heap.size = w.heap.size + 3 := by rw [← hW]; simp
  have S0 : Blk W w.heap.size #[.int .i64 l, .int .i64 b, .slice a1 xs.length c1, .slice a2 ys.length c2] 26 := by rw [← hW]; exact ((Blk.new w _ _).alloc _).alloc _
  have P0 : Blk W (w.heap.size + 1) #[.int .i64 q, .bool g, .bool x, .bool c] 28 := by rw [← hW]; exact (Blk.new' _ _ (by simp)).alloc _
  have Z0 : Blk W (w.heap.size + 1 + 1) #[.int .i64 0, .int .i64 0, .int .i64 0] 30 := by rw [← hW]; exact Blk.new' _ _ (by simp)
  have hb0 : Below w.heap.size w W := by rw [← hW]; exact (((Below.refl _ _).alloc (Nat.le_refl _) _).alloc (by simp) _).alloc (by simp; omega) _
  clear hW
  refine (HR.out W).mono ?_
  rintro e w1 ⟨rfl, hw⟩
  subst w1
  obtain ⟨⟨s0, s1, s2, s3⟩, _⟩ := S0.four
  go_wp2_with fail
  refine (HQ.out W hb0).mono ?_
  rintro e w1 ⟨rfl, hc⟩
  have hb1 := hb0.trans (hc.mono hb0.size)
  have S1 := S0.below hc S0.lt
  have P1 := P0.below hc P0.lt
  have Z1 := Z0.below hc Z0.lt
  have g1 : w.heap.size + 1 + 1 < w1.heap.size := by have := hc.size; omega
  clear hc hb0 S0 P0 Z0 s0 s1 s2 s3
  obtain ⟨⟨p0, p1, p2, p3⟩, _⟩ := P1.four
  go_wp2_with fail
  refine (HP.out w1).mono ?_
  rintro e w2 ⟨rfl, hc⟩
  have hb2 := hb1.trans (hc.mono hb1.size)
  have S2 := S1.below hc S1.lt
  have P2 := P1.below hc P1.lt
  have Z2 := Z1.below hc Z1.lt
  have g2 : w.heap.size + 1 + 1 < w2.heap.size := by have := hc.size; omega
  clear hc hb1 S1 P1 Z1 p0 p1 p2 p3 g1
  obtain ⟨⟨s0, s1, s2, s3⟩, _⟩ := S2.four
  obtain ⟨⟨p0, p1, p2, p3⟩, _⟩ := P2.four
  go_wp2_with fail
  refine (C1.out _).mono ?_
  rintro e w3 ⟨rfl, hw⟩
  subst w3
  clear S2 P2
  have FF : Hid (Blk _ _ _ _ ∧ Below w.heap.size w _) := zFill Z2 hb2 (by omega) 0 0 0
  obtain ⟨⟨z0, z1, z2⟩, f0, f1, f2⟩ := Z2.three
  clear Z2 hb2
  go_wp2
  (try simp only [Exit.inBlock, Exit.then])
  refine bodyPost_ret (results_cell_two rfl _ _ (w.heap.size + 1 + 1) 30 _ (0, 0) _ rfl FF.out.1 Tryd.underlying30 rfl (by kernel_rfl)) rfl ?_
  exact ⟨rfl, FF.out.2⟩

set_option maxHeartbeats 1600000 in
theorem specReadHead_no2 (l b : Int) (a1 a2 : Option Addr) (c1 c2 : Nat) (xs ys : List Int) (q : Int) (g x c : Bool) (s : ByteArray) (w : World) (h : SetIn w a1 a2 xs ys) (hm : s.size ≤ maxLen) (hr : rowOkB s = true) (hq : seqB l b xs ys = true) (hp : parB q g x = true) (n1 e1 : Int) (C1 : Hid (Ans 52 #[.string s, .int .i64 0] n1 e1 true)) (n2 e2 : Int) (C2 : Hid (Ans 53 #[.string s, .int .i64 e1, .int .i64 b] n2 e2 false)) :
    Calls Tryd.prog 22 #[.agg #[.int .i64 l, .int .i64 b, .slice a1 xs.length c1, .slice a2 ys.length c2], .agg #[.int .i64 q, .bool g, .bool x, .bool c], .string s] w fun e w' => e = .returned (hdV 0 0 0 0 false) ∧ Below w.heap.size w w' := by
  have HR : Hid (∀ w', Calls Tryd.prog 50 #[.string s] w' fun e w'' => e = .returned (.bool true) ∧ w'' = w') := fun w' => by rw [← hr]; exact specRowOk s w' hm
  have HQ : Hid (∀ w', Below w.heap.size w w' → Calls Tryd.prog 51 #[.agg #[.int .i64 l, .int .i64 b, .slice a1 xs.length c1, .slice a2 ys.length c2]] w' fun e w'' => e = .returned (.bool true) ∧ Below w'.heap.size w' w'') := fun w' hb => by
    have hw := h.below hb (Nat.le_refl _)
    rw [← hq]; exact specSeqOk l b a1 a2 c1 c2 xs ys w' hw.1.1 hw.1.2.1 hw.2.1 hw.2.2
  have HP : Hid (∀ w', Calls Tryd.prog 42 #[.agg #[.int .i64 q, .bool g, .bool x, .bool c]] w' fun e w'' => e = .returned (.bool true) ∧ Below w'.heap.size w' w'') := fun w' => by rw [← hp]; exact specParOk q g x c w'
  clear hr hm h hq hp
  go_enter Tryd.func22, Tryd.ntmps22
  go_wp2_with fail
  generalize hW : World.alloc (World.alloc (World.alloc w _) _) _ = W
  have hs : W.heap.size = w.heap.size + 3 := by rw [← hW]; simp
  have S0 : Blk W w.heap.size #[.int .i64 l, .int .i64 b, .slice a1 xs.length c1, .slice a2 ys.length c2] 26 := by rw [← hW]; exact ((Blk.new w _ _).alloc _).alloc _
  have P0 : Blk W (w.heap.size + 1) #[.int .i64 q, .bool g, .bool x, .bool c] 28 := by rw [← hW]; exact (Blk.new' _ _ (by simp)).alloc _
  have Z0 : Blk W (w.heap.size + 1 + 1) #[.int .i64 0, .int .i64 0, .int .i64 0] 30 := by rw [← hW]; exact Blk.new' _ _ (by simp)
  have hb0 : Below w.heap.size w W := by rw [← hW]; exact (((Below.refl _ _).alloc (Nat.le_refl _) _).alloc (by simp) _).alloc (by simp; omega) _
  clear hW
  refine (HR.out W).mono ?_
  rintro e w1 ⟨rfl, hw⟩
  subst w1
  obtain ⟨⟨s0, s1, s2, s3⟩, _⟩ := S0.four
  go_wp2_with fail
  refine (HQ.out W hb0).mono ?_
  rintro e w1 ⟨rfl, hc⟩
  have hb1 := hb0.trans (hc.mono hb0.size)
  have S1 := S0.below hc S0.lt
  have P1 := P0.below hc P0.lt
  have Z1 := Z0.below hc Z0.lt
  have g1 : w.heap.size + 1 + 1 < w1.heap.size := by have := hc.size; omega
  clear hc hb0 S0 P0 Z0 s0 s1 s2 s3
  obtain ⟨⟨p0, p1, p2, p3⟩, _⟩ := P1.four
  go_wp2_with fail
  refine (HP.out w1).mono ?_
  rintro e w2 ⟨rfl, hc⟩
  have hb2 := hb1.trans (hc.mono hb1.size)
  have S2 := S1.below hc S1.lt
  have P2 := P1.below hc P1.lt
  have Z2 := Z1.below hc Z1.lt
  have g2 : w.heap.size + 1 + 1 < w2.heap.size := by have := hc.size; omega
  clear hc hb1 S1 P1 Z1 p0 p1 p2 p3 g1
  obtain ⟨⟨s0, s1, s2, s3⟩, _⟩ := S2.four
  obtain ⟨⟨p0, p1, p2, p3⟩, _⟩ := P2.four
  go_wp2_with fail
  refine (C1.out _).mono ?_
  rintro e w3 ⟨rfl, hw⟩
  subst w3
  go_wp2_with fail
  refine (C2.out _).mono ?_
  rintro e w3 ⟨rfl, hw⟩
  subst w3
  clear S2 P2
  have FF : Hid (Blk _ _ _ _ ∧ Below w.heap.size w _) := zFill Z2 hb2 (by omega) 0 0 0
  obtain ⟨⟨z0, z1, z2⟩, f0, f1, f2⟩ := Z2.three
  clear Z2 hb2
  go_wp2
  (try simp only [Exit.inBlock, Exit.then])
  refine bodyPost_ret (results_cell_two rfl _ _ (w.heap.size + 1 + 1) 30 _ (0, 0) _ rfl FF.out.1 Tryd.underlying30 rfl (by kernel_rfl)) rfl ?_
  exact ⟨rfl, FF.out.2⟩

set_option maxHeartbeats 1600000 in
theorem specReadHead_no3 (l b : Int) (a1 a2 : Option Addr) (c1 c2 : Nat) (xs ys : List Int) (q : Int) (g x c : Bool) (s : ByteArray) (w : World) (h : SetIn w a1 a2 xs ys) (hm : s.size ≤ maxLen) (hr : rowOkB s = true) (hq : seqB l b xs ys = true) (hp : parB q g x = true) (n1 e1 : Int) (C1 : Hid (Ans 52 #[.string s, .int .i64 0] n1 e1 true)) (n2 e2 : Int) (C2 : Hid (Ans 53 #[.string s, .int .i64 e1, .int .i64 b] n2 e2 true)) (n3 e3 : Int) (C3 : Hid (Ans 54 #[.string s, .int .i64 e2] n3 e3 false)) (k : Int) (hk : wrap64 (q + n3) = k) :
    Calls Tryd.prog 22 #[.agg #[.int .i64 l, .int .i64 b, .slice a1 xs.length c1, .slice a2 ys.length c2], .agg #[.int .i64 q, .bool g, .bool x, .bool c], .string s] w fun e w' => e = .returned (hdV 0 0 0 0 false) ∧ Below w.heap.size w w' := by
  have HR : Hid (∀ w', Calls Tryd.prog 50 #[.string s] w' fun e w'' => e = .returned (.bool true) ∧ w'' = w') := fun w' => by rw [← hr]; exact specRowOk s w' hm
  have HQ : Hid (∀ w', Below w.heap.size w w' → Calls Tryd.prog 51 #[.agg #[.int .i64 l, .int .i64 b, .slice a1 xs.length c1, .slice a2 ys.length c2]] w' fun e w'' => e = .returned (.bool true) ∧ Below w'.heap.size w' w'') := fun w' hb => by
    have hw := h.below hb (Nat.le_refl _)
    rw [← hq]; exact specSeqOk l b a1 a2 c1 c2 xs ys w' hw.1.1 hw.1.2.1 hw.2.1 hw.2.2
  have HP : Hid (∀ w', Calls Tryd.prog 42 #[.agg #[.int .i64 q, .bool g, .bool x, .bool c]] w' fun e w'' => e = .returned (.bool true) ∧ Below w'.heap.size w' w'') := fun w' => by rw [← hp]; exact specParOk q g x c w'
  clear hr hm h hq hp
  go_enter Tryd.func22, Tryd.ntmps22
  go_wp2_with fail
  generalize hW : World.alloc (World.alloc (World.alloc w _) _) _ = W
  have hs : W.heap.size = w.heap.size + 3 := by rw [← hW]; simp
  have S0 : Blk W w.heap.size #[.int .i64 l, .int .i64 b, .slice a1 xs.length c1, .slice a2 ys.length c2] 26 := by rw [← hW]; exact ((Blk.new w _ _).alloc _).alloc _
  have P0 : Blk W (w.heap.size + 1) #[.int .i64 q, .bool g, .bool x, .bool c] 28 := by rw [← hW]; exact (Blk.new' _ _ (by simp)).alloc _
  have Z0 : Blk W (w.heap.size + 1 + 1) #[.int .i64 0, .int .i64 0, .int .i64 0] 30 := by rw [← hW]; exact Blk.new' _ _ (by simp)
  have hb0 : Below w.heap.size w W := by rw [← hW]; exact (((Below.refl _ _).alloc (Nat.le_refl _) _).alloc (by simp) _).alloc (by simp; omega) _
  clear hW
  refine (HR.out W).mono ?_
  rintro e w1 ⟨rfl, hw⟩
  subst w1
  obtain ⟨⟨s0, s1, s2, s3⟩, _⟩ := S0.four
  go_wp2_with fail
  refine (HQ.out W hb0).mono ?_
  rintro e w1 ⟨rfl, hc⟩
  have hb1 := hb0.trans (hc.mono hb0.size)
  have S1 := S0.below hc S0.lt
  have P1 := P0.below hc P0.lt
  have Z1 := Z0.below hc Z0.lt
  have g1 : w.heap.size + 1 + 1 < w1.heap.size := by have := hc.size; omega
  clear hc hb0 S0 P0 Z0 s0 s1 s2 s3
  obtain ⟨⟨p0, p1, p2, p3⟩, _⟩ := P1.four
  go_wp2_with fail
  refine (HP.out w1).mono ?_
  rintro e w2 ⟨rfl, hc⟩
  have hb2 := hb1.trans (hc.mono hb1.size)
  have S2 := S1.below hc S1.lt
  have P2 := P1.below hc P1.lt
  have Z2 := Z1.below hc Z1.lt
  have g2 : w.heap.size + 1 + 1 < w2.heap.size := by have := hc.size; omega
  clear hc hb1 S1 P1 Z1 p0 p1 p2 p3 g1
  obtain ⟨⟨s0, s1, s2, s3⟩, _⟩ := S2.four
  obtain ⟨⟨p0, p1, p2, p3⟩, _⟩ := P2.four
  go_wp2_with fail
  refine (C1.out _).mono ?_
  rintro e w3 ⟨rfl, hw⟩
  subst w3
  go_wp2_with fail
  refine (C2.out _).mono ?_
  rintro e w3 ⟨rfl, hw⟩
  subst w3
  go_wp2_with fail
  refine (C3.out _).mono ?_
  rintro e w3 ⟨rfl, hw⟩
  subst w3
  have Z4 := Z2.alloc (.cells #[.int .i64 n1, .int .i64 n2, .int .i64 k] 30)
  have hb4 := hb2.alloc hb2.size (.cells #[.int .i64 n1, .int .i64 n2, .int .i64 k] 30)
  clear S2 P2 g2 hs
  have FF : Hid (Blk _ _ _ _ ∧ Below w.heap.size w _) := zFill Z4 hb4 (by omega) 0 0 0
  obtain ⟨⟨z0, z1, z2⟩, f0, f1, f2⟩ := Z4.three
  clear Z4 hb4
  go_wp2
  (try simp only [Exit.inBlock, Exit.then])
  refine bodyPost_ret (results_cell_two rfl _ _ (w.heap.size + 1 + 1) 30 _ (0, 0) _ rfl FF.out.1 Tryd.underlying30 rfl (by kernel_rfl)) rfl ?_
  exact ⟨rfl, FF.out.2⟩

set_option maxHeartbeats 1600000 in
theorem specReadHead_any (l b : Int) (a1 a2 : Option Addr) (c1 c2 : Nat) (xs ys : List Int) (q : Int) (g x c : Bool) (s : ByteArray) (w : World) (h : SetIn w a1 a2 xs ys) (hm : s.size ≤ maxLen) (hr : rowOkB s = true) (hq : seqB l b xs ys = true) (hp : parB q g x = true) (n1 e1 : Int) (C1 : Hid (Ans 52 #[.string s, .int .i64 0] n1 e1 true)) (n2 e2 : Int) (C2 : Hid (Ans 53 #[.string s, .int .i64 e1, .int .i64 b] n2 e2 true)) (n3 e3 : Int) (C3 : Hid (Ans 54 #[.string s, .int .i64 e2] n3 e3 true)) (k : Int) (hk : wrap64 (q + n3) = k) :
    Calls Tryd.prog 22 #[.agg #[.int .i64 l, .int .i64 b, .slice a1 xs.length c1, .slice a2 ys.length c2], .agg #[.int .i64 q, .bool g, .bool x, .bool c], .string s] w fun e w' => e = .returned (hdV n1 n2 k e3 (headB l b xs ys q g x n1 n2 k)) ∧ Below w.heap.size w w' := by
  have HR : Hid (∀ w', Calls Tryd.prog 50 #[.string s] w' fun e w'' => e = .returned (.bool true) ∧ w'' = w') := fun w' => by rw [← hr]; exact specRowOk s w' hm
  have HQ : Hid (∀ w', Below w.heap.size w w' → Calls Tryd.prog 51 #[.agg #[.int .i64 l, .int .i64 b, .slice a1 xs.length c1, .slice a2 ys.length c2]] w' fun e w'' => e = .returned (.bool true) ∧ Below w'.heap.size w' w'') := fun w' hb => by
    have hw := h.below hb (Nat.le_refl _)
    rw [← hq]; exact specSeqOk l b a1 a2 c1 c2 xs ys w' hw.1.1 hw.1.2.1 hw.2.1 hw.2.2
  have HP : Hid (∀ w', Calls Tryd.prog 42 #[.agg #[.int .i64 q, .bool g, .bool x, .bool c]] w' fun e w'' => e = .returned (.bool true) ∧ Below w'.heap.size w' w'') := fun w' => by rw [← hp]; exact specParOk q g x c w'
  have HK : Hid (∀ w', Below w.heap.size w w' → Calls Tryd.prog 16 #[.agg #[.int .i64 l, .int .i64 b, .slice a1 xs.length c1, .slice a2 ys.length c2], .agg #[.int .i64 q, .bool g, .bool x, .bool c], .agg #[.int .i64 n1, .int .i64 n2, .int .i64 k]] w' fun e w'' => e = .returned (.bool (headB l b xs ys q g x n1 n2 k)) ∧ Below w'.heap.size w' w'') := fun w' hb => specHeadOk l b a1 a2 c1 c2 xs ys q g x c n1 n2 k w' (h.below hb (Nat.le_refl _))
  generalize headB l b xs ys q g x n1 n2 k = r at *
  clear hr hm h hq hp
  go_enter Tryd.func22, Tryd.ntmps22
  go_wp2_with fail
  generalize hW : World.alloc (World.alloc (World.alloc w _) _) _ = W
  have hs : W.heap.size = w.heap.size + 3 := by rw [← hW]; simp
  have S0 : Blk W w.heap.size #[.int .i64 l, .int .i64 b, .slice a1 xs.length c1, .slice a2 ys.length c2] 26 := by rw [← hW]; exact ((Blk.new w _ _).alloc _).alloc _
  have P0 : Blk W (w.heap.size + 1) #[.int .i64 q, .bool g, .bool x, .bool c] 28 := by rw [← hW]; exact (Blk.new' _ _ (by simp)).alloc _
  have Z0 : Blk W (w.heap.size + 1 + 1) #[.int .i64 0, .int .i64 0, .int .i64 0] 30 := by rw [← hW]; exact Blk.new' _ _ (by simp)
  have hb0 : Below w.heap.size w W := by rw [← hW]; exact (((Below.refl _ _).alloc (Nat.le_refl _) _).alloc (by simp) _).alloc (by simp; omega) _
  clear hW
  refine (HR.out W).mono ?_
  rintro e w1 ⟨rfl, hw⟩
  subst w1
  obtain ⟨⟨s0, s1, s2, s3⟩, _⟩ := S0.four
  go_wp2_with fail
  refine (HQ.out W hb0).mono ?_
  rintro e w1 ⟨rfl, hc⟩
  have hb1 := hb0.trans (hc.mono hb0.size)
  have S1 := S0.below hc S0.lt
  have P1 := P0.below hc P0.lt
  have Z1 := Z0.below hc Z0.lt
  have g1 : w.heap.size + 1 + 1 < w1.heap.size := by have := hc.size; omega
  clear hc hb0 S0 P0 Z0 s0 s1 s2 s3
  obtain ⟨⟨p0, p1, p2, p3⟩, _⟩ := P1.four
  go_wp2_with fail
  refine (HP.out w1).mono ?_
  rintro e w2 ⟨rfl, hc⟩
  have hb2 := hb1.trans (hc.mono hb1.size)
  have S2 := S1.below hc S1.lt
  have P2 := P1.below hc P1.lt
  have Z2 := Z1.below hc Z1.lt
  have g2 : w.heap.size + 1 + 1 < w2.heap.size := by have := hc.size; omega
  clear hc hb1 S1 P1 Z1 p0 p1 p2 p3 g1
  obtain ⟨⟨s0, s1, s2, s3⟩, _⟩ := S2.four
  obtain ⟨⟨p0, p1, p2, p3⟩, _⟩ := P2.four
  go_wp2_with fail
  refine (C1.out _).mono ?_
  rintro e w3 ⟨rfl, hw⟩
  subst w3
  go_wp2_with fail
  refine (C2.out _).mono ?_
  rintro e w3 ⟨rfl, hw⟩
  subst w3
  go_wp2_with fail
  refine (C3.out _).mono ?_
  rintro e w3 ⟨rfl, hw⟩
  subst w3
  have S4 := S2.alloc (.cells #[.int .i64 n1, .int .i64 n2, .int .i64 k] 30)
  have P4 := P2.alloc (.cells #[.int .i64 n1, .int .i64 n2, .int .i64 k] 30)
  have Z4 := Z2.alloc (.cells #[.int .i64 n1, .int .i64 n2, .int .i64 k] 30)
  have H4 := Blk.new w2 #[.int .i64 n1, .int .i64 n2, .int .i64 k] 30
  have hb4 := hb2.alloc hb2.size (.cells #[.int .i64 n1, .int .i64 n2, .int .i64 k] 30)
  obtain ⟨⟨u0, u1, u2, u3⟩, _⟩ := S4.four
  obtain ⟨⟨o0, o1, o2, o3⟩, _⟩ := P4.four
  obtain ⟨⟨j0, j1, j2⟩, _⟩ := H4.three
  clear hb2 S2 P2 Z2
  go_wp2_with fail
  generalize w2.alloc _ = w4 at *
  generalize hgh : w2.heap.size = gh at *
  refine (HK.out w4 hb4).mono ?_
  rintro e w5 ⟨rfl, hc⟩
  have hb5 := hb4.trans (hc.mono hb4.size)
  have Z5 := Z4.below hc Z4.lt
  have H5 := H4.below hc H4.lt
  clear hc hb4 S4 P4 Z4 H4 HK u0 u1 u2 u3 o0 o1 o2 o3 j0 j1 j2 s0 s1 s2 s3 p0 p1 p2 p3
  obtain ⟨⟨j0, j1, j2⟩, _⟩ := H5.three
  cases r with
  | false =>
    have FF : Hid (Blk _ _ _ _ ∧ Below w.heap.size w _) := zFill Z5 hb5 (by omega) 0 0 0
    obtain ⟨⟨z0, z1, z2⟩, f0, f1, f2⟩ := Z5.three
    clear Z5 hb5
    go_wp2
    (try simp only [Exit.inBlock, Exit.then])
    refine bodyPost_ret (results_cell_two rfl _ _ (w.heap.size + 1 + 1) 30 _ (0, 0) _ rfl FF.out.1 Tryd.underlying30 rfl (by kernel_rfl)) rfl ?_
    exact ⟨rfl, FF.out.2⟩
  | true =>
    have FF : Hid (Blk _ _ _ _ ∧ Below w.heap.size w _) := zFill Z5 hb5 (by omega) n1 n2 k
    obtain ⟨⟨z0, z1, z2⟩, f0, f1, f2⟩ := Z5.three
    clear Z5 hb5
    go_wp2
    (try simp only [Exit.inBlock, Exit.then])
    refine bodyPost_ret (results_cell_two rfl _ _ (w.heap.size + 1 + 1) 30 _ (0, 0) _ rfl FF.out.1 Tryd.underlying30 rfl (by kernel_rfl)) rfl ?_
    exact ⟨rfl, FF.out.2⟩
end Go.Proofs.YtdokmojifkggjaaDoor
