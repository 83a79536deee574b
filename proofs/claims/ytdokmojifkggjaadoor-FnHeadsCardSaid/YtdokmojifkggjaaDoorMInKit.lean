/-
  The walk of spec.l01In.
  The walks of impl's countKind.fold and countKind.open, and of impl.FoldSe and impl.OpenSe.
  The walks of impl.RowOk, spec.l02Row and spec.RowOk: whether a text is a row.
  The walks of impl.placeOk and impl.fixAt: a number out of a row that is right.
-/
import Derived.Test.YtdokmojifkggjaaDoorRows
import Derived.WalkKit
import Derived.WalkSpells
import Derived.StillTactics
import Derived.OwnWalk
import Derived.Test.YtdokmojifkggjaaDoorMSetMath
namespace Go.Proofs.YtdokmojifkggjaaDoor
open Go.RowKit
set_option linter.unusedVariables false
set_option maxRecDepth 20000

theorem in_any (x l m : Int) (w : World) : Calls Tryd.prog 44 #[.int .i64 x, .int .i64 l, .int .i64 m] w fun e w' => e = .returned (.bool (decide (l ≤ x) && decide (x ≤ m))) ∧ w' = w := by
  by_cases h1 : l ≤ x
  · go_enter Tryd.func44, Tryd.ntmps44
    go_wp2
    all_goals go_ret
    all_goals exact ⟨by simp; omega, rfl⟩
  · go_enter Tryd.func44, Tryd.ntmps44
    go_wp2
    all_goals go_ret
    all_goals exact ⟨by simp; omega, rfl⟩
end Go.Proofs.YtdokmojifkggjaaDoor

namespace Go.Proofs.YtdokmojifkggjaaDoor
open Go.RowKit
set_option linter.unusedVariables false
set_option maxRecDepth 20000

theorem implFold (n : Int) (w : World) (h : -500000 ≤ n ∧ n ≤ 500000) :
    Calls Tryd.prog 82 #[.int .i64 1, .int .i64 n] w fun e w' => e = .returned (.tuple #[.int .i64 (seF n), .bool true]) ∧ w' = w := by
  obtain ⟨h0, h1⟩ := h
  by_cases c : 0 < n
  · have HF : Hid (seF n = 2 * n - 1) := seF_pos n c
    go_enter Tryd.func82, Tryd.ntmps82
    go_wp2
    go_ret2
    exact ⟨by rw [HF.out]; rfl, rfl⟩
  · have HF : Hid (seF n = -2 * n) := seF_neg n c
    go_enter Tryd.func82, Tryd.ntmps82
    go_wp2
    go_ret2
    exact ⟨by rw [HF.out]; rfl, rfl⟩
theorem implFold_no (n : Int) (w : World) (h : n < -500000 ∨ 500000 < n) :
    Calls Tryd.prog 82 #[.int .i64 1, .int .i64 n] w fun e w' => e = .returned (.tuple #[.int .i64 0, .bool false]) ∧ w' = w := by
  rcases h with c | c
  all_goals
    go_enter Tryd.func82, Tryd.ntmps82
    go_wp2
    go_ret2
    exact ⟨rfl, rfl⟩
theorem implPlain (n : Int) (w : World) (h : 0 ≤ n ∧ n ≤ 1000000) :
    Calls Tryd.prog 82 #[.int .i64 0, .int .i64 n] w fun e w' => e = .returned (.tuple #[.int .i64 n, .bool true]) ∧ w' = w := by
  obtain ⟨h0, h1⟩ := h
  go_enter Tryd.func82, Tryd.ntmps82
  go_wp2
  go_ret2
  exact ⟨rfl, rfl⟩
theorem implPlain_no (n : Int) (w : World) (h : n < 0 ∨ 1000000 < n) :
    Calls Tryd.prog 82 #[.int .i64 0, .int .i64 n] w fun e w' => e = .returned (.tuple #[.int .i64 0, .bool false]) ∧ w' = w := by
  rcases h with c | c
  all_goals
    go_enter Tryd.func82, Tryd.ntmps82
    go_wp2
    go_ret2
    exact ⟨rfl, rfl⟩

theorem implOpen (u : Int) (w : World) (h : 0 ≤ u ∧ u ≤ 1000000) :
    Calls Tryd.prog 78 #[.int .i64 1, .int .i64 u] w fun e w' => e = .returned (.tuple #[.int .i64 (seO u), .bool true]) ∧ w' = w := by
  obtain ⟨h0, h1⟩ := h
  by_cases c : u % 2 = 1
  · have HF : Hid (seO u = (u + 1) / 2) := seO_odd u c
    go_enter Tryd.func78, Tryd.ntmps78
    go_wp2
    go_ret2
    exact ⟨by rw [HF.out]; rfl, rfl⟩
  · obtain ⟨v, hv⟩ : ∃ v, u = 2 * v := ⟨u / 2, by omega⟩
    have HF : Hid (seO u = -v) := by show _ = _; rw [seO_even u c]; omega
    have c' : (u % 2 == 1) = false := by simpa using c
    go_enter Tryd.func78, Tryd.ntmps78
    go_wp2
    go_ret2
    exact ⟨by rw [HF.out]; rfl, rfl⟩
theorem implOpen_no (u : Int) (w : World) (h : u < 0 ∨ 1000000 < u) :
    Calls Tryd.prog 78 #[.int .i64 1, .int .i64 u] w fun e w' => e = .returned (.tuple #[.int .i64 0, .bool false]) ∧ w' = w := by
  rcases h with c | c
  all_goals
    go_enter Tryd.func78, Tryd.ntmps78
    go_wp2
    go_ret2
    exact ⟨rfl, rfl⟩
theorem implSame (u : Int) (w : World) (h : 0 ≤ u ∧ u ≤ 1000000) :
    Calls Tryd.prog 78 #[.int .i64 0, .int .i64 u] w fun e w' => e = .returned (.tuple #[.int .i64 u, .bool true]) ∧ w' = w := by
  obtain ⟨h0, h1⟩ := h
  go_enter Tryd.func78, Tryd.ntmps78
  go_wp2
  go_ret2
  exact ⟨rfl, rfl⟩
theorem implSame_no (u : Int) (w : World) (h : u < 0 ∨ 1000000 < u) :
    Calls Tryd.prog 78 #[.int .i64 0, .int .i64 u] w fun e w' => e = .returned (.tuple #[.int .i64 0, .bool false]) ∧ w' = w := by
  rcases h with c | c
  all_goals
    go_enter Tryd.func78, Tryd.ntmps78
    go_wp2
    go_ret2
    exact ⟨rfl, rfl⟩

end Go.Proofs.YtdokmojifkggjaaDoor

namespace Go.Proofs.YtdokmojifkggjaaDoor
open Go.RowKit
set_option linter.unusedVariables false
set_option maxRecDepth 20000

set_option maxHeartbeats 1000000 in
theorem implRowOk (s : ByteArray) (w : World) (hm : s.size ≤ maxLen) :
    Calls Tryd.prog 36 #[.string s] w fun e w' => e = .returned (.bool (rowOkB s)) ∧ w' = w := by
  unfold maxLen at hm
  by_cases h : 400000 < s.size
  · have HF : Hid (rowOkB s = false) := rowOkB_big s h
    go_enter Tryd.func36, Tryd.ntmps36
    go_wp2
    go_ret
    exact ⟨by rw [HF.out]; rfl, rfl⟩
  · have HF : Hid (rowOkB s = rowB s) := rowOkB_small s (by omega)
    go_enter Tryd.func36, Tryd.ntmps36
    go_wp2
    go_loopw [9] (fun i wr => ∃ k : Nat, k ≤ s.size ∧ i = .int .i64 k ∧ Hid (∀ j, j < k → bitAt s j) ∧ wr = w)
      (fun i _ => s.size - (intOf i).toNat)
    case atStart => exact ⟨0, Nat.zero_le _, rfl, (fun j hj => by omega : ∀ j, j < 0 → bitAt s j), rfl⟩
    case round =>
      obtain ⟨k, hk, rfl, HG, rfl⟩ := hrel
      by_cases hlt : k < s.size
      · have HX : Hid ((s[k].toNat : Int) = bAt s k) := bAt_eq s k hlt
        by_cases c1 : (s[k].toNat : Int) = 48
        · have HB : Hid (bitAt s k) := .inl (by rw [← HX.out]; exact c1)
          have c1' : ((s[k].toNat : Int) != 48) = false := by simp [c1]
          clear c1
          go_wp2
          go_roundw
          case rel => exact ⟨k + 1, by omega, by go_num, (fun j hj => by rcases Nat.lt_succ_iff_lt_or_eq.1 hj with h | rfl; exact HG.out j h; exact HB.out : ∀ j, j < k + 1 → bitAt s j), trivial⟩
          case measure => simp [intOf]; omega
        by_cases c2 : (s[k].toNat : Int) = 49
        · have HB : Hid (bitAt s k) := .inr (by rw [← HX.out]; exact c2)
          have c1' : ((s[k].toNat : Int) != 48) = true := by simp [c2]
          have c2' : ((s[k].toNat : Int) != 49) = false := by simp [c2]
          clear c1 c2
          go_wp2
          go_roundw
          case rel => exact ⟨k + 1, by omega, by go_num, (fun j hj => by rcases Nat.lt_succ_iff_lt_or_eq.1 hj with h | rfl; exact HG.out j h; exact HB.out : ∀ j, j < k + 1 → bitAt s j), trivial⟩
          case measure => simp [intOf]; omega
        · have HE : Hid (rowB s = false) := rowB_bad s k hlt (fun g => by unfold bitAt at g; rw [← HX.out] at g; omega)
          have c1' : ((s[k].toNat : Int) != 48) = true := by simp; omega
          have c2' : ((s[k].toNat : Int) != 49) = true := by simp; omega
          clear c1 c2
          go_wp2
          go_ret
          exact ⟨by rw [HF.out, HE.out]; rfl, rfl⟩
      · have HE : Hid (rowB s = true) := rowB_good s (fun j hj => HG.out j (by omega))
        go_wp2
        go_ret
        exact ⟨by rw [HF.out, HE.out]; rfl, rfl⟩

set_option maxHeartbeats 1000000 in
theorem specRow (s : ByteArray) (w : World) (hm : s.size ≤ 400000) :
    Calls Tryd.prog 71 #[.string s] w fun e w' => e = .returned (.bool (rowB s)) ∧ w' = w := by
  go_enter Tryd.func71, Tryd.ntmps71
  go_wp2
  go_loopw [3] (fun i wr => ∃ k : Nat, k ≤ s.size ∧ i = .int .i64 k ∧ Hid (∀ j, j < k → bitAt s j) ∧ wr = w)
    (fun i _ => s.size - (intOf i).toNat)
  case atStart => exact ⟨0, Nat.zero_le _, rfl, (fun j hj => by omega : ∀ j, j < 0 → bitAt s j), rfl⟩
  case round =>
    obtain ⟨k, hk, rfl, HG, rfl⟩ := hrel
    by_cases hlt : k < s.size
    · have HX : Hid ((s[k].toNat : Int) = bAt s k) := bAt_eq s k hlt
      by_cases c1 : (s[k].toNat : Int) = 48
      · have HB : Hid (bitAt s k) := .inl (by rw [← HX.out]; exact c1)
        have c1' : ((s[k].toNat : Int) != 48) = false := by simp [c1]
        clear c1
        go_wp2
        go_roundw
        case rel => exact ⟨k + 1, by omega, by go_num, (fun j hj => by rcases Nat.lt_succ_iff_lt_or_eq.1 hj with h | rfl; exact HG.out j h; exact HB.out : ∀ j, j < k + 1 → bitAt s j), trivial⟩
        case measure => simp [intOf]; omega
      by_cases c2 : (s[k].toNat : Int) = 49
      · have HB : Hid (bitAt s k) := .inr (by rw [← HX.out]; exact c2)
        have c1' : ((s[k].toNat : Int) != 48) = true := by simp [c2]
        have c2' : ((s[k].toNat : Int) != 49) = false := by simp [c2]
        clear c1 c2
        go_wp2
        go_roundw
        case rel => exact ⟨k + 1, by omega, by go_num, (fun j hj => by rcases Nat.lt_succ_iff_lt_or_eq.1 hj with h | rfl; exact HG.out j h; exact HB.out : ∀ j, j < k + 1 → bitAt s j), trivial⟩
        case measure => simp [intOf]; omega
      · have HE : Hid (rowB s = false) := rowB_bad s k hlt (fun g => by unfold bitAt at g; rw [← HX.out] at g; omega)
        have c1' : ((s[k].toNat : Int) != 48) = true := by simp; omega
        have c2' : ((s[k].toNat : Int) != 49) = true := by simp; omega
        clear c1 c2
        go_wp2
        go_ret
        exact ⟨by rw [HE.out]; rfl, rfl⟩
    · have HE : Hid (rowB s = true) := rowB_good s (fun j hj => HG.out j (by omega))
      go_wp2
      go_ret
      exact ⟨by rw [HE.out]; rfl, rfl⟩

set_option maxHeartbeats 1000000 in
theorem specRowOk (s : ByteArray) (w : World) (hm : s.size ≤ maxLen) :
    Calls Tryd.prog 50 #[.string s] w fun e w' => e = .returned (.bool (rowOkB s)) ∧ w' = w := by
  unfold maxLen at hm
  by_cases h : 400000 < s.size
  · have HF : Hid (rowOkB s = false) := rowOkB_big s h
    go_enter Tryd.func50, Tryd.ntmps50
    go_wp2
    go_ret
    exact ⟨by rw [HF.out]; rfl, rfl⟩
  · have HF : Hid (rowOkB s = rowB s) := rowOkB_small s (by omega)
    go_enter Tryd.func50, Tryd.ntmps50
    go_wp2_with (go_at_call 71; refine (specRow _ _ (by omega)).mono ?_; rintro e w1 ⟨rfl, hw⟩; subst w1)
    go_ret
    exact ⟨by rw [HF.out]; rfl, rfl⟩
end Go.Proofs.YtdokmojifkggjaaDoor

namespace Go.Proofs.YtdokmojifkggjaaDoor
open Go.RowKit
set_option linter.unusedVariables false
set_option maxRecDepth 20000

def placeB (s : ByteArray) (a : Int) : Bool := decide (0 ≤ a) && decide (a ≤ (s.size : Int)) && rowOkB s
theorem placeB_yes (s : ByteArray) (a : Nat) (h : (a : Int) ≤ (s.size : Int)) (hr : rowOkB s = true) : placeB s a = true := by
  unfold placeB; rw [hr]; simp; omega
theorem placeB_no (s : ByteArray) (a : Int) (h : placeB s a = false) : rowOkB s = false ∨ a < 0 ∨ (s.size : Int) < a := by
  unfold placeB at h
  cases hr : rowOkB s with
  | false => exact .inl rfl
  | true => rw [hr] at h; simp at h; omega
theorem placeB_true (s : ByteArray) (a : Int) (h : placeB s a = true) : 0 ≤ a ∧ a ≤ (s.size : Int) ∧ rowOkB s = true := by
  unfold placeB at h; simp at h; exact ⟨h.1.1, h.1.2, h.2⟩

set_option maxHeartbeats 1000000 in
theorem implAt (s : ByteArray) (a k : Nat) (w : World) (hr : rowOkB s = true) (hk : (k : Int) ≤ 30) (hak : (a : Int) + (k : Int) ≤ (s.size : Int)) :
    Calls Tryd.prog 65 #[.string s, .int .i64 a, .int .i64 k] w fun e w' => e = .returned (.tuple #[.int .i64 (readN s a k), .int .i64 ((a : Int) + (k : Int)), .bool true]) ∧ w' = w := by
  obtain ⟨h4, hrow⟩ := rowOkB_true s hr
  have h4' : (s.size : Int) ≤ 400000 := by omega
  have HR : Hid (rowB s = true) := hrow
  clear hrow
  go_enter Tryd.func65, Tryd.ntmps65
  go_wp2
  go_loopw [9, 26] (fun n i wr => ∃ j : Nat, j ≤ k ∧ i = .int .i64 (j : Int) ∧ n = .int .i64 (readN s a j) ∧ wr = w)
    (fun _ i _ => k - (intOf i).toNat)
  case atStart => exact ⟨0, Nat.zero_le _, rfl, rfl, rfl⟩
  case round =>
    obtain ⟨j, hj, rfl, rfl, rfl⟩ := hrel
    have hbd := readN_bd s a j HR.out (by omega) (by omega)
    by_cases hlt : j < k
    · have HS : Hid (readN s a (j + 1) = 2 * readN s a j + (bAt s (a + j) - 48)) := rfl
      have HX : Hid ((s[a + j].toNat : Int) = bAt s (a + j)) := bAt_eq s (a + j) (by omega)
      have hbit : 48 ≤ (s[a + j].toNat : Int) ∧ (s[a + j].toNat : Int) ≤ 49 := by
        have := rowB_bit s HR.out (a + j) (by omega); unfold bitAt at this; rw [← HX.out] at this; omega
      generalize readN s a j = n at *
      have hq : (j : Int) < (k : Int) := by omega
      go_wp2
      go_roundw
      case rel => exact ⟨j + 1, by omega, by go_num, by rw [HS.out, ← HX.out], trivial⟩
      case measure => simp [intOf]; omega
    · obtain rfl : j = k := by omega
      go_wp2
      go_ret3
      exact ⟨rfl, rfl⟩

set_option maxHeartbeats 1000000 in
theorem implAtNo (s : ByteArray) (a k : Int) (w : World) (h4 : (s.size : Int) ≤ 400000) (ha0 : 0 ≤ a) (ha : a ≤ (s.size : Int)) (h : k < 0 ∨ 30 < k ∨ (s.size : Int) - a < k) :
    Calls Tryd.prog 65 #[.string s, .int .i64 a, .int .i64 k] w fun e w' => e = .returned (.tuple #[.int .i64 0, .int .i64 0, .bool false]) ∧ w' = w := by
  rcases h with c | c | c
  all_goals
    go_enter Tryd.func65, Tryd.ntmps65
    go_wp2
    all_goals (go_ret3; exact ⟨rfl, rfl⟩)

/-- When ReadFix refuses. -/
abbrev readNo (s : ByteArray) (a k : Int) : Prop := rowOkB s = false ∨ a < 0 ∨ (s.size : Int) < a ∨ k < 0 ∨ 30 < k ∨ (s.size : Int) - a < k
end Go.Proofs.YtdokmojifkggjaaDoor
