/-
  impl.LevelsRow, spec.LevelsRow: whatever list and condition.
-/
import Derived.Test.YtnlbigjfnjcldaaGreatLevRow
import Derived.Deep.RegionHeld3
namespace Go.Proofs.YtnlbigjfnjcldaaGreat
open Go.RowKit
set_option linter.unusedVariables false
set_option maxRecDepth 20000

theorem empty_app (s : ByteArray) : (⟨#[]⟩ : ByteArray) ++ s = s := by
  apply ByteArray.ext
  simp
theorem piece_all {xs : List Int} (h : xs.length = 64) : pieceL 64 xs 0 = xs := by
  unfold pieceL
  have e : (fun i => xs.getD (0 * 64 + i) 0) = fun i => xs.getD i 0 := funext fun i => by rw [Nat.zero_mul, Nat.zero_add]
  rw [e, ← h]
  exact listF_self xs
theorem piece_in {sz k : Nat} {xs : List Int} (hl : xs.length = 64) (hk : k * sz + sz ≤ 64) (h : inB 5000 xs = true) : inB 5000 (pieceL sz xs k) = true := by
  refine inB_iff.2 fun i hi => ?_
  unfold pieceL at hi ⊢
  rw [listF_length] at hi
  rw [listF_get _ hi]
  exact inB_iff.1 h (k * sz + i) (by omega)
theorem acc_all {xs : List Int} (h : xs.length = 64) : accS 64 xs 1 = rnS xs := by
  show (⟨#[]⟩ : ByteArray) ++ rnS (pieceL 64 xs 0) = rnS xs
  rw [empty_app, piece_all h]
theorem acc_four (xs : List Int) : accS 16 xs 4 = rnS (pieceL 16 xs 0) ++ rnS (pieceL 16 xs 1) ++ rnS (pieceL 16 xs 2) ++ rnS (pieceL 16 xs 3) := by
  show (⟨#[]⟩ : ByteArray) ++ rnS (pieceL 16 xs 0) ++ rnS (pieceL 16 xs 1) ++ rnS (pieceL 16 xs 2) ++ rnS (pieceL 16 xs 3) = _
  rw [empty_app]
theorem lrS_le (q : Int) (g x : Bool) (xs : List Int) : (lrS q g x xs).size ≤ 20800 := by
  unfold lrS
  split
  · split
    · have := accS_le 64 xs 1
      omega
    · have := accS_le 16 xs 4
      omega
  · exact Nat.zero_le _
theorem lrS_no {q : Int} {g x : Bool} {xs : List Int} (h : lrB q g x xs = false) : lrS q g x xs = ⟨#[]⟩ := if_neg (by rw [h]; decide)
theorem lrS_yes {q : Int} {g x : Bool} {xs : List Int} (h : lrB q g x xs = true) : lrS q g x xs = if (g || x) = true then accS 64 xs 1 else accS 16 xs 4 := if_pos h
theorem ints_addr {w : World} {a : Option Addr} {xs : List Int} (h : Ints w a xs) (hl : xs.length = 64) : ∃ gb o, a = some ⟨gb, o, none⟩ ∧ gb < w.heap.size := by
  rcases h with h | ⟨b, off, e, hb, _⟩
  · rw [h] at hl; cases hl
  · exact ⟨b, off, e, hb⟩

set_option maxHeartbeats 800000 in
theorem implLevelsRow (a : Option Addr) (cap : Nat) (xs : List Int) (k : Bool) (q : Int) (g x : Bool) (w : World) (h : Ints w a xs) (hl : xs.length ≤ maxLen) (hcap : xs.length ≤ cap) :
    Calls Tryz.prog 122 #[.slice a xs.length cap, conV k q g x] w fun e w' => e = .returned (.tuple #[.string (lrS q g x xs), .bool (lrB q g x xs)]) ∧ Below w.heap.size w w' := by
  cases hy : lrB q g x xs with
  | true =>
    have hy' : parB q g x = true ∧ sqB 5000 xs = true := by unfold lrB at hy; simpa using hy
    obtain ⟨h64, _⟩ := sqB_iff.1 hy'.2
    obtain ⟨gb, o, rfl, _⟩ := ints_addr h h64
    rw [lrS_yes hy]
    rw [h64] at hcap ⊢
    cases x with
    | true =>
      have := levelsRow_yes gb o cap hcap xs k q g true w 64 1 (.inr ⟨rfl, rfl⟩) ⟨_, _, rfl⟩ h hy'.1 hy'.2
      cases g <;> exact this
    | false =>
      cases g with
      | true => exact levelsRow_yes gb o cap hcap xs k q true false w 64 1 (.inr ⟨rfl, rfl⟩) ⟨_, _, rfl⟩ h hy'.1 hy'.2
      | false => exact levelsRow_yes gb o cap hcap xs k q false false w 16 4 (.inl ⟨rfl, rfl⟩) ⟨_, _, rfl⟩ h hy'.1 hy'.2
  | false =>
    rw [lrS_no hy]
    have B0 := Blk.new w #[.bool k, .int .i64 q, .bool g, .bool x] 26
    have hb0 := (Below.refl w.heap.size w).alloc (Nat.le_refl _) (.cells #[.bool k, .int .i64 q, .bool g, .bool x] 26)
    have HI : Hid (∀ w', Below w.heap.size w w' → Ints w' a xs) := fun w' hb => h.below hb (Nat.le_refl _)
    have C1 : Hid (∀ w', Below w.heap.size w w' → Calls Tryz.prog 120 #[.slice a xs.length cap, .int .i64 5000] w' fun e w'' => e = .returned (.bool (sqB 5000 xs)) ∧ Below w'.heap.size w' w'') := fun w' hb => numberSquareOk_any a cap xs 5000 w' (HI.out w' hb) hl (by decide) (by decide)
    have C2 : Hid (∀ w', Calls Tryz.prog 30 #[conV k q g x] w' fun e w'' => e = .returned (.bool (parB q g x)) ∧ Below w'.heap.size w' w'') := fun w' => implCondOk k q g x w'
    have HY : Hid (parB q g x = true → sqB 5000 xs = true → False) := fun h1 h2 => by unfold lrB at hy; rw [h1, h2] at hy; cases hy
    unfold maxLen at hl
    clear h hy
    generalize parB q g x = X at *
    generalize sqB 5000 xs = Y at *
    go_enter Tryz.func122, Tryz.ntmps122
    go_wp2_with fail
    generalize World.alloc w _ = V at *
    have BK : Hid (∀ w', Below V.heap.size V w' → (w'.cell? ⟨w.heap.size, 0, none⟩ = some (.bool k) ∧ w'.cell? ⟨w.heap.size, 1, none⟩ = some (.int .i64 q) ∧ w'.cell? ⟨w.heap.size, 2, none⟩ = some (.bool g) ∧ w'.cell? ⟨w.heap.size, 3, none⟩ = some (.bool x))) := fun w' h => (B0.below h B0.lt).four.1
    clear B0
    refine (C1.out V hb0).mono ?_
    rintro e w1 ⟨rfl, hb1⟩
    have hbw1 := hb0.trans (hb1.mono hb0.size)
    rcases Y with _ | _
    · go_wp2
      go_ret2
      exact ⟨rfl, hbw1⟩
    obtain ⟨x0, x1, x2, x3⟩ := BK.out w1 hb1
    go_wp2_with fail
    refine (C2.out w1).mono ?_
    rintro e w2 ⟨rfl, hc⟩
    have hbw2 := hbw1.trans (hc.mono hbw1.size)
    rcases X with _ | _
    · go_wp2
      go_ret2
      exact ⟨rfl, hbw2⟩
    exact (HY.out (by trivial) (by trivial)).elim

set_option maxHeartbeats 3200000 in
theorem specRow_yes (gb o cap : Nat) (hcap : 64 ≤ cap) (xs : List Int) (k : Bool) (q : Int) (g x : Bool) (w : World) (h : Ints w (some ⟨gb, o, none⟩) xs) (hl : xs.length = 64) (hin : inB 5000 xs = true) :
    Calls Tryz.prog 58 #[.slice (some ⟨gb, o, none⟩) 64 cap, conV k q g x] w fun e w' => e = .returned (.string (if (g || x) = true then accS 64 xs 1 else accS 16 xs 4)) ∧ Below w.heap.size w w' := by
  have HI : Hid (∀ w', Below w.heap.size w w' → Ints w' (some ⟨gb, o, none⟩) xs) := fun w' hb => h.below hb (Nat.le_refl _)
  have hb0 := (Below.refl w.heap.size w).alloc (Nat.le_refl _) (.cells #[.bool k, .int .i64 q, .bool g, .bool x] 26)
  have CA : Hid (∀ w', Below w.heap.size w w' → Calls Tryz.prog 68 #[.slice (some ⟨gb, o, none⟩) 64 cap] w' fun e w'' => e = .returned (.string (accS 64 xs 1)) ∧ Below w'.heap.size w' w'') := fun w' hb => by
    have := specRuns (some ⟨gb, o, none⟩) cap xs w' (HI.out w' hb) (by omega) hin
    rw [hl] at this
    rw [acc_all hl, show rnS xs = strOfNums (rowL (rnF xs 64)) by unfold rnS; rw [if_pos (by unfold rnOk; rw [hl, hin]; rfl), hl]]
    exact this
  have CQ : Hid (∀ (j c : Nat) w', j < 4 → Below w.heap.size w w' → Calls Tryz.prog 68 #[.slice (some ⟨gb, o + j * 16, none⟩) 16 c] w' fun e w'' => e = .returned (.string (rnS (pieceL 16 xs j))) ∧ Below w'.heap.size w' w'') := fun j c w' hj hb => by
    have hp : (pieceL 16 xs j).length = 16 := listF_length _ _
    have hi := piece_in (sz := 16) (k := j) hl (by omega) hin
    have := specRuns (some ⟨gb, o + j * 16, none⟩) c (pieceL 16 xs j) w' (ints_piece (HI.out w' hb) hl (by omega)) (by omega) hi
    rw [hp] at this
    rw [show rnS (pieceL 16 xs j) = strOfNums (rowL (rnF (pieceL 16 xs j) 16)) by unfold rnS; rw [if_pos (by unfold rnOk; rw [hp, hi]; rfl), hp]]
    exact this
  have C0 : Hid (∀ (c : Nat) w', Below w.heap.size w w' → Calls Tryz.prog 68 #[.slice (some ⟨gb, o, none⟩) 16 c] w' fun e w'' => e = .returned (.string (rnS (pieceL 16 xs 0))) ∧ Below w'.heap.size w' w'') := fun c w' hb => CQ.out 0 c w' (by omega) hb
  have C1 : Hid (∀ (c : Nat) w', Below w.heap.size w w' → Calls Tryz.prog 68 #[.slice (some ⟨gb, o + 16, none⟩) 16 c] w' fun e w'' => e = .returned (.string (rnS (pieceL 16 xs 1))) ∧ Below w'.heap.size w' w'') := fun c w' hb => CQ.out 1 c w' (by omega) hb
  have C2 : Hid (∀ (c : Nat) w', Below w.heap.size w w' → Calls Tryz.prog 68 #[.slice (some ⟨gb, o + 32, none⟩) 16 c] w' fun e w'' => e = .returned (.string (rnS (pieceL 16 xs 2))) ∧ Below w'.heap.size w' w'') := fun c w' hb => CQ.out 2 c w' (by omega) hb
  have C3 : Hid (∀ (c : Nat) w', Below w.heap.size w w' → Calls Tryz.prog 68 #[.slice (some ⟨gb, o + 48, none⟩) 16 c] w' fun e w'' => e = .returned (.string (rnS (pieceL 16 xs 3))) ∧ Below w'.heap.size w' w'') := fun c w' hb => CQ.out 3 c w' (by omega) hb
  have HA : Hid (accS 16 xs 4 = rnS (pieceL 16 xs 0) ++ rnS (pieceL 16 xs 1) ++ rnS (pieceL 16 xs 2) ++ rnS (pieceL 16 xs 3)) := acc_four xs
  have r0 := rnS_le (pieceL 16 xs 0)
  have r1 := rnS_le (pieceL 16 xs 1)
  have r2 := rnS_le (pieceL 16 xs 2)
  have r3 := rnS_le (pieceL 16 xs 3)
  generalize rnS (pieceL 16 xs 0) = R0 at *
  generalize rnS (pieceL 16 xs 1) = R1 at *
  generalize rnS (pieceL 16 xs 2) = R2 at *
  generalize rnS (pieceL 16 xs 3) = R3 at *
  generalize accS 64 xs 1 = RA at *
  have B0 := Blk.new w #[.bool k, .int .i64 q, .bool g, .bool x] 26
  obtain ⟨⟨x0, x1, x2, x3⟩, _⟩ := B0.four
  clear CQ h hin hl HI
  cases x with
  | true =>
    have e1 : (if (g || true) = true then RA else accS 16 xs 4) = RA := if_pos (by simp)
    rw [e1]
    cases g <;>
    · go_enter Tryz.func58, Tryz.ntmps58
      go_wp2_with (go_at_call 68; refine (CA.out _ hb0).mono ?_; rintro e w1 ⟨rfl, hc⟩)
      go_ret
      exact ⟨rfl, hb0.trans (hc.mono hb0.size)⟩
  | false =>
    cases g with
    | true =>
      go_enter Tryz.func58, Tryz.ntmps58
      go_wp2_with (go_at_call 68; refine (CA.out _ hb0).mono ?_; rintro e w1 ⟨rfl, hc⟩)
      go_ret
      exact ⟨rfl, hb0.trans (hc.mono hb0.size)⟩
    | false =>
      have e1 : (if (false || false) = true then RA else accS 16 xs 4) = R0 ++ R1 ++ R2 ++ R3 := HA.out
      rw [e1]
      go_enter Tryz.func58, Tryz.ntmps58
      go_wp2_with fail
      have hbs := hb0.size
      generalize World.alloc w _ = V at *
      clear B0 x0 x1 x2 x3 CA HA
      have z0 : (16 : Int) ≤ (cap : Int) := by omega
      have z1 : (32 : Int) ≤ (cap : Int) := by omega
      have z2 : (48 : Int) ≤ (cap : Int) := by omega
      have z3 : (64 : Int) ≤ (cap : Int) := by omega
      have y0 : 16 ≤ cap := by omega
      have y1 : 32 ≤ cap := by omega
      have y2 : 48 ≤ cap := by omega
      have n0 : ¬ cap = 16 := by omega
      have n1 : ¬ cap = 32 := by omega
      have n2 : ¬ cap = 48 := by omega
      have t0 : ¬ 9223372036854775807 < R0.size + R1.size := by omega
      have t1 : ¬ 9223372036854775807 < R0.size + R1.size + R2.size := by omega
      have t2 : ¬ 9223372036854775807 < R0.size + R1.size + R2.size + R3.size := by omega
      have hS : Below V.heap.size V V.drew := (Below.refl _ _).drew
      go_region_held3 (fun w' => Below V.heap.size V w')
        (first | (with_reducible exact hS) | go_keep)
        (first
          | (go_at_call 68; (with_reducible refine Calls.mono (C0.out _ _ ?hb) ?_); (case hb => exact hb0.trans (hS.mono hbs)); rintro e w5 ⟨rfl, hc5⟩; have hS := hS.trans (hc5.mono hS.size))
          | (go_at_call 68; (with_reducible refine Calls.mono (C1.out _ _ ?hb) ?_); (case hb => exact hb0.trans (hS.mono hbs)); rintro e w5 ⟨rfl, hc5⟩; have hS := hS.trans (hc5.mono hS.size))
          | (go_at_call 68; (with_reducible refine Calls.mono (C2.out _ _ ?hb) ?_); (case hb => exact hb0.trans (hS.mono hbs)); rintro e w5 ⟨rfl, hc5⟩; have hS := hS.trans (hc5.mono hS.size))
          | (go_at_call 68; (with_reducible refine Calls.mono (C3.out _ _ ?hb) ?_); (case hb => exact hb0.trans (hS.mono hbs)); rintro e w5 ⟨rfl, hc5⟩; have hS := hS.trans (hc5.mono hS.size)))
      all_goals
        go_wp2
        go_ret
        exact ⟨rfl, hb0.trans (hS.mono hbs)⟩

end Go.Proofs.YtnlbigjfnjcldaaGreat
