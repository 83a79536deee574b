/-
  impl.runsPlacesOk, impl.runsOf, run.row, run.size.
-/
import Derived.Test.YtlejfkjanllgbaaGreatDoorRunSpec
import Derived.Test.YtlejfkjanllgbaaGreatDoorIntAll
import Derived.Test.YtlejfkjanllgbaaGreatDoorBlkKit
import Derived.Deep.AppendLies
import Derived.BigQuiet
namespace Go.Proofs.YtlejfkjanllgbaaGreatDoor
open Go.RowKit
set_option linter.unusedVariables false
set_option maxRecDepth 20000

theorem below_drewM {B : Nat} {w w' : World} (h : Below B w w') : ∀ n, Below B w (w'.drewN n)
  | 0 => h
  | n + 1 => (below_drewM h n).drew

theorem placesOk_any (n : Int) (w : World) : Calls Tryz.prog 66 #[.int .i64 n] w fun e w' => e = .returned (.bool (decide (n = 16) || decide (n = 64))) ∧ w' = w := by
  by_cases h1 : n = 16
  · subst h1
    go_enter Tryz.func66, Tryz.ntmps66
    go_wp2
    go_ret
    exact ⟨rfl, rfl⟩
  · by_cases h2 : n = 64
    · subst h2
      go_enter Tryz.func66, Tryz.ntmps66
      go_wp2
      go_ret
      exact ⟨rfl, rfl⟩
    · have e1 : (decide (n = 16) || decide (n = 64)) = false := by simp [h1, h2]
      rw [e1]
      have q1 : (n == 16) = false := by rw [beq_eq_false_iff_ne]; exact h1
      have q2 : (n == 64) = false := by rw [beq_eq_false_iff_ne]; exact h2
      go_enter Tryz.func66, Tryz.ntmps66
      go_wp2
      go_ret
      exact ⟨by simp, rfl⟩

theorem infoR : (Tryz.prog.info? 86).map (fun i => (i.zero, i.size, i.bytes)) = some (some (.agg #[.int .i64 0, .int .i64 0]), 2, 16) := by kernel_rfl

set_option maxHeartbeats 1600000 in
theorem runsOf_yes (a : Option Addr) (cap : Nat) (xs : List Int) (w : World) (h : Ints w a xs) (hy : rnOk xs = true) :
    Calls Tryz.prog 46 #[.slice a xs.length cap] w fun e w' => (∃ v, e = .returned (.tuple #[v, .bool true]) ∧ w'.ownsRow w.heap.size 86 2 v (rnF xs xs.length).length (runCells (rnF xs xs.length))) ∧ Below w.heap.size w w' := by
  obtain ⟨i0, hi0, hz0, hz1, hz2⟩ := info_parts infoR
  obtain ⟨h1, h2⟩ := rnOk_of hy
  have hl : xs.length ≤ 64 := by rcases h1 with h | h <;> omega
  have CP := placesOk_any (xs.length : Int)
  rw [show (decide ((xs.length : Int) = 16) || decide ((xs.length : Int) = 64)) = true by rcases h1 with h | h <;> rw [h] <;> rfl] at CP
  have HP : Hid (∀ w', Calls Tryz.prog 66 #[.int .i64 (xs.length : Int)] w' (fun e w'' => e = .returned (.bool true) ∧ w'' = w')) := CP
  have CA := implAll a cap xs 5000 w h (by unfold maxLen; omega) (by omega) (by omega)
  rw [h2] at CA
  have HA : Hid (Calls Tryz.prog 38 #[.slice a xs.length cap, .int .i64 5000] w (fun e w' => e = .returned (.bool true) ∧ Below w.heap.size w w')) := CA
  have H : Hid (Ints w a xs) := h
  have n64 : (xs.length : Int) ≤ 64 := by omega
  have HK : Hid (rnOk xs = true) := hy
  clear CP CA h h1 h2 hy
  go_enter Tryz.func46, Tryz.ntmps46
  go_wp2_with (first
    | (go_at_call 66; refine (HP.out _).mono ?_; rintro e w1 ⟨rfl, hw⟩; subst w1)
    | (go_at_call 38; refine HA.out.mono ?_; rintro e w2 ⟨rfl, hc2⟩)
    | (at_make; refine wpList_make_own _ (by rfl) _ _ 81 (by rfl) w.heap.size 86 i0 (.agg #[.int .i64 0, .int .i64 0]) 2 Tryz.underlying81 hi0 hz0 hz1 .i64 .i64 _ xs.length (by rfl) (by rfl) (by omega) (by rw [hz2]; omega) (by unfold maxLen; omega) hc2.size ?_; intro w3 hown0 hgrow0; have hb0 : Below w.heap.size w w3 := hc2.grown hgrow0 hc2.size (fun j hj => by cases hj)))
  clear hgrow0 hc2
  go_loopw [4, 5, 23] (fun v z i wr => ∃ k : Nat, k ≤ xs.length ∧ i = .int .i64 (k : Int) ∧ z = .int .i64 (zrF xs k : Int) ∧ wr.ownsRow w.heap.size 86 2 v (rnF xs k).length (runCells (rnF xs k)) ∧ Below w.heap.size w wr) (fun _ _ i _ => xs.length - (intOf i).toNat)
  case atStart => exact ⟨0, Nat.zero_le _, rfl, rfl, hown0, hb0⟩
  case round =>
    obtain ⟨k, hk, rfl, rfl, hown, hb⟩ := hrel
    clear hown0 hb0
    have l0 : (0 : Int) ≤ (k : Int) := by omega
    have hzn := zr_rn_le xs k
    by_cases hlt : k < xs.length
    · have l1 : (k : Int) < (xs.length : Int) := by omega
      rcases (H.out.below hb (Nat.le_refl _)) with h0 | ⟨b, off, rfl, hg, hc⟩
      · rw [h0] at hlt; cases hlt
      have d1 := hc k hlt
      clear hc
      by_cases hx : xs.getD k 0 = 0
      · have E1 : Hid (zrF xs (k + 1) = zrF xs k + 1) := zrF_nought hx
        have E2 : Hid (rnF xs (k + 1) = rnF xs k) := rnF_nought hx
        rw [hx] at d1
        clear hx
        have z0 : (0 : Int) ≤ (zrF xs k : Int) := by omega
        have z1 : (zrF xs k : Int) ≤ 64 := by omega
        go_wp2
        go_roundw
        case rel => exact ⟨k + 1, by omega, by go_num, by rw [E1.out]; go_num, by rw [E2.out]; exact hown, hb⟩
        case measure => simp [intOf]; omega
      · have E1 : Hid (zrF xs (k + 1) = 0) := zrF_level hx
        have E2 : Hid (rnF xs (k + 1) = rnF xs k ++ [(zrF xs k, xs.getD k 0)]) := rnF_level hx
        obtain ⟨z, hz⟩ : ∃ z, zrF xs k = z := ⟨_, rfl⟩
        obtain ⟨x, hxx⟩ : ∃ x, xs.getD k 0 = x := ⟨_, rfl⟩
        rw [hxx] at hx d1 E2
        rw [hz] at hzn E2 ⊢
        have HC : Hid (runCells (rnF xs k) ++ [.int .i64 (z : Int), .int .i64 x] = runCells (rnF xs (k + 1))) := by
          show _ = _
          rw [E2.out, runCells_append]
          rfl
        have HN : Hid ((rnF xs (k + 1)).length = (rnF xs k).length + 1) := by
          show _ = _
          rw [E2.out, List.length_append]
          rfl
        generalize (rnF xs k).length = m at *
        generalize runCells (rnF xs k) = C at *
        have m0 : m ≤ 64 := by omega
        clear hz hxx hzn E2
        go_wp2_with (at_builtin; refine wpList_append_lies _ (by rfl) _ _ 81 (by rfl) w.heap.size 86 i0 (.agg #[.int .i64 0, .int .i64 0]) 2 16 Tryz.underlying81 hi0 hz0 hz1 hz2 rfl (by omega) u4 m _ (by rfl) (hown.alloc _) ⟨wr.heap.size, 0, none⟩ 1 1 [.int .i64 (z : Int), .int .i64 x] (by rfl) (by rfl) (World.news_of_block (cs := #[.int .i64 (z : Int), .int .i64 x]) (t := 86) (fr := (0, 0)) (heap_alloc_new wr _)) (by simp [Value.oneCell']) (by omega) (by unfold maxLen; omega) (by omega) (by have := hb.size; simp; omega) (wr.heap.size + 1) (by simp) ?_; intro gg cp w4 hown4 hgrow hat hlt2)
        rw [HC.out] at hown4
        have hb4 := (hb.alloc hb.size _).grown hgrow (by have := hb.size; simp; omega) (fun j hj => (hown.lt j hj).1)
        go_roundw
        case rel => exact ⟨k + 1, by omega, by go_num, by rw [E1.out]; rfl, by rw [HN.out]; exact hown4, hb4⟩
        case measure => simp [intOf]; omega
    · obtain rfl : k = xs.length := by omega
      go_wp2
      go_ret2
      exact ⟨⟨_, rfl, hown⟩, hb⟩

theorem runsOf_no (a : Option Addr) (cap : Nat) (xs : List Int) (w : World) (h : Ints w a xs) (hl : xs.length ≤ maxLen) (hy : rnOk xs = false) :
    Calls Tryz.prog 46 #[.slice a xs.length cap] w fun e w' => (∃ v, e = .returned (.tuple #[v, .bool false])) ∧ Below w.heap.size w w' := by
  have hl' := hl
  unfold maxLen at hl'
  have CP := placesOk_any (xs.length : Int)
  by_cases h1 : xs.length = 16 ∨ xs.length = 64
  · rw [show (decide ((xs.length : Int) = 16) || decide ((xs.length : Int) = 64)) = true by rcases h1 with h | h <;> rw [h] <;> rfl] at CP
    have h2 : inB 5000 xs = false := by
      unfold rnOk at hy
      rw [show (decide (xs.length = 16) || decide (xs.length = 64)) = true by rcases h1 with h | h <;> rw [h] <;> rfl, Bool.true_and] at hy
      exact hy
    have CA := implAll a cap xs 5000 w h hl (by omega) (by omega)
    rw [h2] at CA
    have HP : Hid (∀ w', Calls Tryz.prog 66 #[.int .i64 (xs.length : Int)] w' (fun e w'' => e = .returned (.bool true) ∧ w'' = w')) := CP
    have HA : Hid (Calls Tryz.prog 38 #[.slice a xs.length cap, .int .i64 5000] w (fun e w' => e = .returned (.bool false) ∧ Below w.heap.size w w')) := CA
    clear CP CA h h1 h2 hy
    generalize xs.length = n at *
    go_enter Tryz.func46, Tryz.ntmps46
    go_wp2_with (first
      | (go_at_call 66; refine (HP.out _).mono ?_; rintro e w1 ⟨rfl, hw⟩; subst w1)
      | (go_at_call 38; refine HA.out.mono ?_; rintro e w2 ⟨rfl, hc2⟩))
    go_ret2
    exact ⟨⟨_, rfl⟩, hc2.alloc hc2.size _⟩
  · rw [show (decide ((xs.length : Int) = 16) || decide ((xs.length : Int) = 64)) = false by simp; omega] at CP
    have HP : Hid (∀ w', Calls Tryz.prog 66 #[.int .i64 (xs.length : Int)] w' (fun e w'' => e = .returned (.bool false) ∧ w'' = w')) := CP
    clear CP h h1 hy
    generalize xs.length = n at *
    go_enter Tryz.func46, Tryz.ntmps46
    go_wp2_with (go_at_call 66; refine (HP.out _).mono ?_; rintro e w1 ⟨rfl, hw⟩; subst w1)
    go_ret2
    exact ⟨⟨_, rfl⟩, (Below.refl _ _).alloc (Nat.le_refl _) _⟩

set_option maxHeartbeats 800000 in
theorem runRow (r : Nat × Int) (w : World) (hr : RunOk r) :
    Calls Tryz.prog 48 #[.agg #[.int .i64 (r.1 : Int), .int .i64 r.2]] w fun e w' => e = .returned (.string (strOfNums (runL r))) ∧ Below w.heap.size w w' := by
  obtain ⟨z, x⟩ := r
  obtain ⟨h1, h2, h3, h4⟩ := hr
  dsimp only at *
  have s0 := seF_in ⟨h2, h3⟩
  have CU : Hid (∀ w', Calls Tryz.prog 47 #[.int .i64 (z : Int)] w' (fun e w'' => e = .returned (.tuple #[.string (ueS (z : Int)), .bool true]) ∧ Below w'.heap.size w' w'')) := fun w' => implUeRow (z : Int) w' (by omega)
  have CS : Hid (∀ w', Calls Tryz.prog 68 #[.int .i64 x] w' (fun e w'' => e = .returned (.tuple #[.string (ueS (seF x)), .bool true]) ∧ Below w'.heap.size w' w'')) := fun w' => implSeRow x w' (by omega)
  have hu := (ueL_len (z : Int) (by omega) (by omega)).1
  have hu2 := (ueL_len (z : Int) (by omega) (by omega)).2.2
  have hs := (ueL_len (seF x) s0.1 (by omega)).1
  have hs2 := (ueL_len (seF x) s0.1 (by omega)).2.2
  have HS : Hid (ueS (z : Int) ++ ueS (seF x) = strOfNums (runL (z, x))) := by
    show _ = _
    rw [ueS_is, ueS_is, strOfNums_app]
    rfl
  have q2 : (ueS (z : Int)).size ≤ 40 := by rw [ueS_is, sizeS]; omega
  have q3 : (ueS (seF x)).size ≤ 40 := by rw [ueS_is, sizeS]; omega
  generalize ueS (z : Int) = U at *
  generalize ueS (seF x) = V at *
  have c1 : ¬ 9223372036854775807 < U.size + V.size := by omega
  have hb0 : Below w.heap.size w (w.alloc (.cells #[.int .i64 (z : Int), .int .i64 x] 86)) := (Below.refl _ _).alloc (Nat.le_refl _) _
  have b0 := Blk.new w #[.int .i64 (z : Int), .int .i64 x] 86
  have y0 := b0.cell 0
  have y1 := b0.cell 1
  clear hu hu2 hs hs2 q2 q3 s0 h1 h2 h3 h4
  go_enter Tryz.func48, Tryz.ntmps48
  go_wp2_with (first
    | (go_at_call 47; refine (CU.out _).mono ?_; rintro e w1 ⟨rfl, hc1⟩; have hb1 := hb0.trans (hc1.mono (by simp)); have x1 : w1.cell? ⟨w.heap.size, 1, none⟩ = some (.int .i64 x) := (hc1.cell (p := ⟨w.heap.size, 1, none⟩) (by simp)).trans y1)
    | (go_at_call 68; refine (CS.out _).mono ?_; rintro e w2 ⟨rfl, hc2⟩; have hb2 := hb1.trans (hc2.mono hb1.size)))
  go_ret
  exact ⟨congrArg (fun t => Ending.returned (Value.string t)) HS.out, hb2⟩

end Go.Proofs.YtlejfkjanllgbaaGreatDoor
