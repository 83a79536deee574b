/-
  The walks of spec.Decimal and impl.Decimal: both answer the decimal figures of the number.
-/
import Derived.Test.YtimjbihibacmaaaDoorRows
import Derived.Test.YtimjbihibacmaaaDoorShelf
import Derived.Test.YtimjbihibacmaaaDoorDecMath
import Derived.WalkKit
import Derived.WalkSpells
import Derived.OwnWalk
import Derived.WalkSmall
import Derived.KernelRfl
namespace Go.Proofs.YtimjbihibacmaaaDoor
open Go.RowKit Go.Shelf

theorem conv_new {w : World} {x : Int} : (convert 22 9 (.slice (some ⟨w.heap.size, 0, none⟩) 1 1)).run Tryd.prog (w.alloc (.cells #[.int .u8 x] 5)) = .ok (.string (strOfNums [x])) (w.alloc (.cells #[.int .u8 x] 5)) := by
  refine run_convert_bytes_arg _ 22 5 Tryd.underlying22 Tryd.underlying5 w.heap.size 0 1 1 [x] rfl (fun i hi => ?_) 9 Tryd.underlying9
  obtain rfl : i = 0 := by omega
  rw [cell_of_row _ w.heap.size (0 + 0) #[.int .u8 x] 5 (0, 0) (heap_alloc_new w _)]
  rfl

set_option maxHeartbeats 400000 in
theorem figure_any (x : Int) (w : World) (h0 : 0 ≤ x) (h1 : x ≤ 15) :
    Calls Tryd.prog 23 #[.int .i64 x] w fun e w' => e = .returned (.int .u8 (fig x)) ∧ w' = w := by
  unfold fig
  by_cases h : x < 10
  · go_enter Tryd.func23, Tryd.ntmps23
    go_wp2
    go_ret
    exact ⟨by simp, rfl⟩
  · go_enter Tryd.func23, Tryd.ntmps23
    go_wp2
    go_ret
    refine ⟨?_, rfl⟩
    simp; omega

set_option maxHeartbeats 800000 in
theorem specDec_pos (n : Nat) (w : World) (hn : 0 < n) (hm : n ≤ 9223372036854775807) :
    Calls Tryd.prog 14 #[.int .i64 n] w fun e w' => e = .returned (.string ⟨(pre n).toArray⟩) ∧ Below w.heap.size w w' := by
  have hz : ((n : Int) == 0) = false := by simp; omega
  have hng : decide ((n : Int) < 0) = false := by simp
  have hl := pre_len n (by omega)
  have hss : ∀ x, (strOfNums [x]).size = 1 := fun x => rfl
  go_enter Tryd.func14, Tryd.ntmps14
  go_wp2
  go_loopw [0, 4] (fun a o wr => ∃ (u : Nat) (acc : List UInt8), u ≤ n ∧ a = .int .i64 u ∧ o = .string ⟨acc.toArray⟩ ∧ pre u ++ acc = pre n ∧ Below w.heap.size w wr)
    (fun a _ _ => (intOf a).toNat)
  case atStart => exact ⟨n, [], Nat.le_refl _, rfl, rfl, by simp, Below.refl _ _⟩
  case round =>
    obtain ⟨u, acc, hu, rfl, rfl, hp, hb⟩ := hrel
    have hal : acc.length ≤ 20 := by have : (pre u ++ acc).length = (pre n).length := by rw [hp]
                                     simp at this; omega
    have HP : Hid (pre u ++ acc = pre n) := hp
    clear hp hl
    by_cases h0 : 0 < u
    · have hu0 : ¬ u = 0 := by omega
      have hcn : ∀ x, (convert 22 9 (.slice (some ⟨wr.heap.size, 0, none⟩) 1 1)).run Tryd.prog (wr.alloc (.cells #[.int .u8 x] 5)) = .ok (.string (strOfNums [x])) (wr.alloc (.cells #[.int .u8 x] 5)) := fun x => conv_new
      go_wp2_with (go_at_call 23; refine (figure_any _ _ (by omega) (by omega)).mono ?_; rintro e w' ⟨rfl, hw⟩; subst w')
      go_roundw
      case rel => exact ⟨u / 10, UInt8.ofNat (48 + u % 10) :: acc, by omega, by go_num, fig_str u acc, by rw [← HP.out, pre_step h0]; simp, hb.alloc hb.size _⟩
      case measure => simp [intOf]; omega
    · obtain rfl : u = 0 := by omega
      have HE : Hid (acc = pre n) := HP.out
      go_wp2
      go_ret
      exact ⟨by rw [← HE.out]; rfl, hb⟩
set_option maxHeartbeats 800000 in
theorem specDec_neg (n : Nat) (w : World) (hn : 0 < n) (hm : n ≤ 9223372036854775808) :
    Calls Tryd.prog 14 #[.int .i64 (-(n : Int))] w fun e w' => e = .returned (.string ⟨(45 :: pre n).toArray⟩) ∧ Below w.heap.size w w' := by
  have hz : (-(n : Int) == 0) = false := by simp; omega
  have hng : decide (-(n : Int) < 0) = true := by simp; omega
  have hl := pre_len n (by omega)
  have hss : ∀ x, (strOfNums [x]).size = 1 := fun x => rfl
  go_enter Tryd.func14, Tryd.ntmps14
  go_wp2
  go_loopw [0, 4] (fun a o wr => ∃ (u : Nat) (acc : List UInt8), u ≤ n ∧ a = .int .i64 (-(u : Int)) ∧ o = .string ⟨acc.toArray⟩ ∧ pre u ++ acc = pre n ∧ Below w.heap.size w wr)
    (fun a _ _ => (-(intOf a)).toNat)
  case atStart => exact ⟨n, [], Nat.le_refl _, rfl, rfl, by simp, Below.refl _ _⟩
  case round =>
    obtain ⟨u, acc, hu, rfl, rfl, hp, hb⟩ := hrel
    have hal : acc.length ≤ 20 := by have : (pre u ++ acc).length = (pre n).length := by rw [hp]
                                     simp at this; omega
    have HP : Hid (pre u ++ acc = pre n) := hp
    clear hp hl
    by_cases h0 : 0 < u
    · have hu0 : (-(u : Int) != 0) = true := by simp; omega
      have hd1 := neg_mod u
      have hd2 := neg_div u
      have hcn : ∀ x, (convert 22 9 (.slice (some ⟨wr.heap.size, 0, none⟩) 1 1)).run Tryd.prog (wr.alloc (.cells #[.int .u8 x] 5)) = .ok (.string (strOfNums [x])) (wr.alloc (.cells #[.int .u8 x] 5)) := fun x => conv_new
      go_wp2_with (go_at_call 23; refine (figure_any _ _ (by omega) (by omega)).mono ?_; rintro e w' ⟨rfl, hw⟩; subst w')
      all_goals
        go_roundw
        case rel => exact ⟨u / 10, UInt8.ofNat (48 + u % 10) :: acc, by omega, by go_num, by first | exact fig_str u acc | (rw [show (-((u : Int) % 10)) = (u : Int) % 10 by omega]; exact fig_str u acc), by rw [← HP.out, pre_step h0]; simp, hb.alloc hb.size _⟩
        case measure => simp [intOf]; omega
    · obtain rfl : u = 0 := by omega
      have HE : Hid (acc = pre n) := HP.out
      go_wp2
      go_ret
      exact ⟨by rw [← HE.out]; rfl, hb⟩
theorem specDec (n : Int) (w : World) (h0 : -9223372036854775808 ≤ n) (h1 : n ≤ 9223372036854775807) :
    Calls Tryd.prog 14 #[.int .i64 n] w fun e w' => e = .returned (.string ⟨(Lib.itoa n).toArray⟩) ∧ Below w.heap.size w w' := by
  rcases Int.lt_trichotomy n 0 with h | rfl | h
  · obtain ⟨u, rfl⟩ : ∃ u : Nat, n = -(u : Int) := ⟨n.natAbs, by omega⟩
    rw [itoa_below (by omega)]
    exact specDec_neg u w (by omega) (by omega)
  · rw [itoa_zero]
    go_enter Tryd.func14, Tryd.ntmps14
    go_wp2
    go_ret
    exact ⟨rfl, Below.refl _ _⟩
  · obtain ⟨u, rfl⟩ : ∃ u : Nat, n = (u : Int) := ⟨n.natAbs, by omega⟩
    rw [itoa_pos (by omega)]
    exact specDec_pos u w (by omega) (by omega)
theorem below_growN (w : World) (k : Nat) (os : Array Obj) : Below w.heap.size w (Go.Sort.grow (w.drewN k) os) :=
  ⟨rfl, rfl, rfl, by simp [Go.Sort.grow, World.drewN], fun i hi => by simp [Go.Sort.grow, World.drewN, Array.getElem?_append, hi]⟩
set_option maxHeartbeats 400000 in
theorem implDec (n : Int) (w : World) (h0 : -9223372036854775808 ≤ n) (h1 : n ≤ 9223372036854775807) (htab : Lib.TabIs Tryd.prog w "internal/strconv.uint64pow10" .u64 Lib.pow10Tab) :
    Calls Tryd.prog 12 #[.int .i64 n] w fun e w' => e = .returned (.string ⟨(Lib.itoa n).toArray⟩) ∧ Below w.heap.size w w' := by
  have HT : Hid (Lib.TabIs Tryd.prog w "internal/strconv.uint64pow10" .u64 Lib.pow10Tab) := htab
  clear htab
  go_enter Tryd.func12, Tryd.ntmps12
  go_wp2_with (go_at_call 22; refine (Any.strconv_Itoa Tryd.laysM171 n h0 h1 _ HT.out).mono ?_; rintro e w1 ⟨rfl, k, os, hw⟩; subst w1)
  go_ret
  exact ⟨rfl, below_growN _ _ _⟩
end Go.Proofs.YtimjbihibacmaaaDoor
