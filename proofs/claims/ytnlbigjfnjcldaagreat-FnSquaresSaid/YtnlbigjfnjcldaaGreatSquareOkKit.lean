/-
  When a square is right: the walks of impl.sentAs, of the three methods right, of impl.SquareOk and of spec.SquareOk.
-/
import Derived.Test.YtnlbigjfnjcldaaGreatSquareKit
import Derived.Test.YtnlbigjfnjcldaaGreatIntAll
import Derived.Test.YtnlbigjfnjcldaaGreatInKit
import Derived.Handy
namespace Go.Proofs.YtnlbigjfnjcldaaGreat
open Go.RowKit
set_option linter.unusedVariables false
set_option maxRecDepth 20000

theorem ints_blk {w : World} {g : Nat} {x y : Int} {t : TypeId} (h : Blk w g #[.int .i64 x, .int .i64 y] t) : Ints w (some ⟨g, 0, none⟩) [x, y] :=
  .inr ⟨g, 0, rfl, h.lt, fun i hi => by
    have hi' : i < 2 := hi
    rw [h.cell]
    rcases (show i = 0 ∨ i = 1 by omega) with rfl | rfl <;> rfl⟩
theorem inB_two (x y : Int) : inB 16 [x, y] = ((decide (-16 ≤ x) && decide (x ≤ 16)) && (decide (-16 ≤ y) && decide (y ≤ 16))) := by
  rw [Bool.eq_iff_iff, inB_iff]
  simp only [Bool.and_eq_true, decide_eq_true_eq]
  constructor
  · intro h
    exact ⟨h 0 (by simp), h 1 (by simp)⟩
  · intro h i hi
    have hi' : i < 2 := hi
    rcases (show i = 0 ∨ i = 1 by omega) with rfl | rfl
    · exact h.1
    · exact h.2

theorem sentAs_skip (md dx dy : Int) (a : Option Addr) (n c : Nat) (w : World) :
    Calls Tryz.prog 29 #[sqV 0 md dx dy a n c] w fun e w' => e = .returned (.tuple #[.iface 78 (sqV 0 md dx dy a n c), .bool true]) ∧ Below w.heap.size w w' := by
  have hb := (Below.refl w.heap.size w).alloc (Nat.le_refl _) (.cells (sqC 0 md dx dy a n c) 34)
  go_enter Tryz.func29, Tryz.ntmps29
  go_wp2
  go_ret2
  exact ⟨rfl, hb⟩
theorem sentAs_move (md dx dy : Int) (a : Option Addr) (n c : Nat) (w : World) :
    Calls Tryz.prog 29 #[sqV 1 md dx dy a n c] w fun e w' => e = .returned (.tuple #[.iface 79 (sqV 1 md dx dy a n c), .bool true]) ∧ Below w.heap.size w w' := by
  have hb := (Below.refl w.heap.size w).alloc (Nat.le_refl _) (.cells (sqC 1 md dx dy a n c) 34)
  go_enter Tryz.func29, Tryz.ntmps29
  go_wp2
  go_ret2
  exact ⟨rfl, hb⟩
theorem sentAs_guess (md dx dy : Int) (a : Option Addr) (n c : Nat) (w : World) :
    Calls Tryz.prog 29 #[sqV 2 md dx dy a n c] w fun e w' => e = .returned (.tuple #[.iface 80 (sqV 2 md dx dy a n c), .bool true]) ∧ Below w.heap.size w w' := by
  have hb := (Below.refl w.heap.size w).alloc (Nat.le_refl _) (.cells (sqC 2 md dx dy a n c) 34)
  go_enter Tryz.func29, Tryz.ntmps29
  go_wp2
  go_ret2
  exact ⟨rfl, hb⟩
theorem sentAs_none (kd md dx dy : Int) (a : Option Addr) (n c : Nat) (w : World) (h0 : ¬ kd = 0) (h1 : ¬ kd = 1) (h2 : ¬ kd = 2) :
    Calls Tryz.prog 29 #[sqV kd md dx dy a n c] w fun e w' => e = .returned (.tuple #[.nilIface, .bool false]) ∧ Below w.heap.size w w' := by
  have hb := (Below.refl w.heap.size w).alloc (Nat.le_refl _) (.cells (sqC kd md dx dy a n c) 34)
  have q0 : (kd == 0) = false := by rw [beq_eq_false_iff_ne]; exact h0
  have q1 : (kd == 1) = false := by rw [beq_eq_false_iff_ne]; exact h1
  have q2 : (kd == 2) = false := by rw [beq_eq_false_iff_ne]; exact h2
  go_enter Tryz.func29, Tryz.ntmps29
  go_wp2
  go_ret2
  exact ⟨rfl, hb⟩

theorem sqOk_0 (md dx dy : Int) (xs : List Int) : sqOkB 0 md dx dy xs = (decide (md = 0) && decide (dx = 0) && decide (dy = 0) && decide (xs.length = 0)) := if_pos rfl
theorem sqOk_1 (md dx dy : Int) (xs : List Int) : sqOkB 1 md dx dy xs = (decide (md = 0) && (decide (-16 ≤ dx) && decide (dx ≤ 16)) && (decide (-16 ≤ dy) && decide (dy ≤ 16)) && sqB 5000 xs) := by
  unfold sqOkB
  rw [if_neg (by decide), if_pos rfl]
theorem sqOk_2 (md dx dy : Int) (xs : List Int) : sqOkB 2 md dx dy xs = ((decide (0 ≤ md) && decide (md ≤ 3)) && decide (dx = 0) && decide (dy = 0) && sqB 5000 xs) := by
  unfold sqOkB
  rw [if_neg (by decide), if_neg (by decide), if_pos rfl]
theorem sqOk_no {kd md dx dy : Int} {xs : List Int} (h0 : ¬ kd = 0) (h1 : ¬ kd = 1) (h2 : ¬ kd = 2) : sqOkB kd md dx dy xs = false := by
  unfold sqOkB
  rw [if_neg h0, if_neg h1, if_neg h2]

set_option maxHeartbeats 800000 in
theorem right_skip (kd md dx dy : Int) (a : Option Addr) (c : Nat) (xs : List Int) (w : World) (hl : xs.length ≤ maxLen) :
    Calls Tryz.prog 113 #[sqV kd md dx dy a xs.length c] w fun e w' => e = .returned (.bool (sqOkB 0 md dx dy xs)) ∧ Below w.heap.size w w' := by
  have hb := (Below.refl w.heap.size w).alloc (Nat.le_refl _) (.cells (sqC kd md dx dy a xs.length c) 78)
  have HE : Hid (sqOkB 0 md dx dy xs = (decide (md = 0) && decide (dx = 0) && decide (dy = 0) && decide (xs.length = 0))) := sqOk_0 md dx dy xs
  unfold maxLen at hl
  generalize sqOkB 0 md dx dy xs = E at *
  generalize xs.length = n at *
  by_cases h0 : md = 0
  · subst h0
    by_cases h1 : dx = 0
    · subst h1
      by_cases h2 : dy = 0
      · subst h2
        by_cases h3 : n = 0
        · subst h3
          go_enter Tryz.func113, Tryz.ntmps113
          go_wp2
          go_ret
          exact ⟨by rw [HE.out]; rfl, hb⟩
        · have q3 : (n == 0) = false := by rw [beq_eq_false_iff_ne]; exact h3
          have q4 : ((n : Int) == 0) = false := by rw [beq_eq_false_iff_ne]; omega
          have HF : Hid (decide (n = 0) = false) := by show _ = _; simpa using h3
          go_enter Tryz.func113, Tryz.ntmps113
          go_wp2
          go_ret
          exact ⟨by rw [HE.out, HF.out]; rfl, hb⟩
      · have q3 : (dy == 0) = false := by rw [beq_eq_false_iff_ne]; exact h2
        have HF : Hid (decide (dy = 0) = false) := by show _ = _; simpa using h2
        go_enter Tryz.func113, Tryz.ntmps113
        go_wp2
        go_ret
        exact ⟨by rw [HE.out, HF.out]; rfl, hb⟩
    · have q3 : (dx == 0) = false := by rw [beq_eq_false_iff_ne]; exact h1
      have HF : Hid (decide (dx = 0) = false) := by show _ = _; simpa using h1
      go_enter Tryz.func113, Tryz.ntmps113
      go_wp2
      go_ret
      exact ⟨by rw [HE.out, HF.out]; rfl, hb⟩
  · have q3 : (md == 0) = false := by rw [beq_eq_false_iff_ne]; exact h0
    have HF : Hid (decide (md = 0) = false) := by show _ = _; simpa using h0
    go_enter Tryz.func113, Tryz.ntmps113
    go_wp2
    go_ret
    exact ⟨by rw [HE.out, HF.out]; rfl, hb⟩

set_option maxHeartbeats 800000 in
theorem right_move (kd md dx dy : Int) (a : Option Addr) (c : Nat) (xs : List Int) (w : World) (h : Ints w a xs) (hl : xs.length ≤ maxLen) :
    Calls Tryz.prog 116 #[sqV kd md dx dy a xs.length c] w fun e w' => e = .returned (.bool (sqOkB 1 md dx dy xs)) ∧ Below w.heap.size w w' := by
  have hb := (Below.refl w.heap.size w).alloc (Nat.le_refl _) (.cells (sqC kd md dx dy a xs.length c) 79)
  have HE : Hid (sqOkB 1 md dx dy xs = (decide (md = 0) && inB 16 [dx, dy] && sqB 5000 xs)) := by
    show _ = _
    rw [sqOk_1, inB_two]
    simp only [Bool.and_assoc]
  have C1 : Hid (∀ (g : Nat) w', Blk w' g #[.int .i64 dx, .int .i64 dy] 3 → Calls Tryz.prog 119 #[.slice (some ⟨g, 0, none⟩) 2 2, .int .i64 16] w' fun e w'' => e = .returned (.bool (inB 16 [dx, dy])) ∧ Below w'.heap.size w' w'') :=
    fun g w' hB => implAll (some ⟨g, 0, none⟩) 2 [dx, dy] 16 w' (ints_blk hB) (by simp [maxLen]) (by decide) (by decide)
  have C2 : Hid (∀ w', Below w.heap.size w w' → Calls Tryz.prog 120 #[.slice a xs.length c, .int .i64 5000] w' fun e w'' => e = .returned (.bool (sqB 5000 xs)) ∧ Below w'.heap.size w' w'') := fun w' hb => numberSquareOk_any a c xs 5000 w' (h.below hb (Nat.le_refl _)) hl (by decide) (by decide)
  unfold maxLen at hl
  clear h
  generalize sqOkB 1 md dx dy xs = E at *
  generalize inB 16 [dx, dy] = X at *
  generalize sqB 5000 xs = Y at *
  generalize xs.length = n at *
  have BK : Hid (∀ w1, Below (w.heap.size + 1) (w.alloc (.cells (sqC kd md dx dy a n c) 79)) w1 → w1.cell? ⟨w.heap.size, 4, none⟩ = some (.slice a n c)) := fun w1 h1 => ((Blk.new w (sqC kd md dx dy a n c) 79).below h1 (by omega)).five.1.2.2.2.2
  by_cases h0 : md = 0
  · subst h0
    cases X
    all_goals
      go_enter Tryz.func116, Tryz.ntmps116
      go_wp2_with (first
        | (go_at_call 119; refine (C1.out _ _ (Blk.new' _ _ (by simp))).mono ?_; rintro e w1 ⟨rfl, hc⟩; have hb1 := (hb.alloc hb.size (.cells #[.int .i64 dx, .int .i64 dy] 3)).trans (hc.mono (by simp; omega)); have x4 := BK.out _ (((Below.refl _ _).alloc (by simp) (.cells #[.int .i64 dx, .int .i64 dy] 3)).trans (hc.mono (by simp))))
        | (go_at_call 120; refine (C2.out _ hb1).mono ?_; rintro e w2 ⟨rfl, hc2⟩))
      go_ret
    · exact ⟨by rw [HE.out]; rfl, hb1⟩
    · exact ⟨by rw [HE.out]; rfl, hb1.trans (hc2.mono hb1.size)⟩
  · have q3 : (md == 0) = false := by rw [beq_eq_false_iff_ne]; exact h0
    have HF : Hid (decide (md = 0) = false) := by show _ = _; simpa using h0
    go_enter Tryz.func116, Tryz.ntmps116
    go_wp2
    go_ret
    exact ⟨by rw [HE.out, HF.out]; rfl, hb⟩

set_option maxHeartbeats 800000 in
theorem right_guess (kd md dx dy : Int) (a : Option Addr) (c : Nat) (xs : List Int) (w : World) (h : Ints w a xs) (hl : xs.length ≤ maxLen) :
    Calls Tryz.prog 185 #[sqV kd md dx dy a xs.length c] w fun e w' => e = .returned (.bool (sqOkB 2 md dx dy xs)) ∧ Below w.heap.size w w' := by
  have hb := (Below.refl w.heap.size w).alloc (Nat.le_refl _) (.cells (sqC kd md dx dy a xs.length c) 80)
  have HE : Hid (sqOkB 2 md dx dy xs = ((decide (0 ≤ md) && decide (md ≤ 3)) && decide (dx = 0) && decide (dy = 0) && sqB 5000 xs)) := sqOk_2 md dx dy xs
  have C2 : Hid (∀ w', Below w.heap.size w w' → Calls Tryz.prog 120 #[.slice a xs.length c, .int .i64 5000] w' fun e w'' => e = .returned (.bool (sqB 5000 xs)) ∧ Below w'.heap.size w' w'') := fun w' hb => numberSquareOk_any a c xs 5000 w' (h.below hb (Nat.le_refl _)) hl (by decide) (by decide)
  unfold maxLen at hl
  clear h
  generalize sqOkB 2 md dx dy xs = E at *
  generalize sqB 5000 xs = Y at *
  generalize xs.length = n at *
  by_cases h0 : 0 ≤ md
  · have g0 : decide (0 ≤ md) = true := by simpa using h0
    by_cases h3 : md ≤ 3
    · have g3 : decide (md ≤ 3) = true := by simpa using h3
      have HG : Hid ((decide (0 ≤ md) && decide (md ≤ 3)) = true) := by show _ = _; rw [g0, g3]; rfl
      clear g0 g3
      by_cases h1 : dx = 0
      · subst h1
        by_cases h2 : dy = 0
        · subst h2
          go_enter Tryz.func185, Tryz.ntmps185
          go_wp2_with (go_at_call 120; refine (C2.out _ hb).mono ?_; rintro e w2 ⟨rfl, hc2⟩)
          go_ret
          exact ⟨by rw [HE.out, HG.out]; rfl, hb.trans (hc2.mono hb.size)⟩
        · have q3 : (dy == 0) = false := by rw [beq_eq_false_iff_ne]; exact h2
          have HF : Hid (decide (dy = 0) = false) := by show _ = _; simpa using h2
          go_enter Tryz.func185, Tryz.ntmps185
          go_wp2
          go_ret
          exact ⟨by rw [HE.out, HF.out, HG.out]; rfl, hb⟩
      · have q3 : (dx == 0) = false := by rw [beq_eq_false_iff_ne]; exact h1
        have HF : Hid (decide (dx = 0) = false) := by show _ = _; simpa using h1
        go_enter Tryz.func185, Tryz.ntmps185
        go_wp2
        go_ret
        exact ⟨by rw [HE.out, HF.out, HG.out]; rfl, hb⟩
    · have HF : Hid (decide (md ≤ 3) = false) := by show _ = _; simpa using h3
      have h3' : 3 < md := by omega
      go_enter Tryz.func185, Tryz.ntmps185
      go_wp2
      go_ret
      exact ⟨by rw [HE.out, HF.out, Bool.and_false]; rfl, hb⟩
  · have HF : Hid (decide (0 ≤ md) = false) := by show _ = _; simpa using h0
    have h0' : md < 0 := by omega
    go_enter Tryz.func185, Tryz.ntmps185
    go_wp2
    go_ret
    exact ⟨by rw [HE.out, HF.out]; rfl, hb⟩
end Go.Proofs.YtnlbigjfnjcldaaGreat
