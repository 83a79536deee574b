/-
  The walks of impl.sideSquares, spec.l05Sum and SquaresOf of both: how many squares a set has.
-/
import Derived.Test.YtdokmojifkggjaaDoorMSetMath
import Derived.Test.YtdokmojifkggjaaDoorIntKit
import Derived.Test.YtdokmojifkggjaaDoorMInKit
namespace Go.Proofs.YtdokmojifkggjaaDoor
open Go.RowKit
set_option linter.unusedVariables false
set_option maxRecDepth 20000

set_option maxHeartbeats 800000 in
theorem implSide (a : Option Addr) (cap : Nat) (xs : List Int) (w : World) (ht : Ints w a xs) (hl : xs.length ≤ maxLen) :
    Calls Tryd.prog 95 #[.slice a xs.length cap] w fun e w' => e = .returned (.int .i64 (sideI xs)) ∧ w' = w := by
  unfold maxLen at hl
  by_cases hbig : 4 < xs.length
  · have HV : Hid (sideI xs = 0) := sideI_big hbig
    go_enter Tryd.func95, Tryd.ntmps95
    go_wp2
    go_ret
    exact ⟨by rw [HV.out]; rfl, rfl⟩
  have HT : Hid (Ints w a xs) := ht
  clear ht
  have hl' : (xs.length : Int) ≤ 4 := by omega
  go_enter Tryd.func95, Tryd.ntmps95
  go_wp2
  go_loopw [3, 11] (fun v i wr => ∃ k : Nat, k ≤ xs.length ∧ i = .int .i64 k ∧ v = .int .i64 (sumT xs k) ∧ Hid (goodT xs k) ∧ wr = w)
    (fun _ i _ => xs.length - (intOf i).toNat)
  case atStart => exact ⟨0, Nat.zero_le _, rfl, rfl, goodT_zero xs, rfl⟩
  case round =>
    obtain ⟨k, hk, rfl, rfl, HG, rfl⟩ := hrel
    by_cases hlt : k < xs.length
    · rcases HT.out with h | ⟨b, off, rfl, hg, hc⟩
      · rw [h] at hlt; simp at hlt
      have d1 := hc k hlt
      have HS : Hid (sumT xs (k + 1) = sumT xs k + xs.getD k 0) := sumT_succ xs k hlt
      obtain ⟨s0, s1⟩ := sumT_bd xs k hk HG.out
      have HB : Hid (xs.getD k 0 < 1 ∨ 8 < xs.getD k 0 → sideI xs = 0) := sideI_bad k hlt
      have HK : Hid (1 ≤ xs.getD k 0 → xs.getD k 0 ≤ 8 → goodT xs (k + 1)) := fun h1 h2 => goodT_succ HG.out h1 h2
      clear hc
      have l0 : (0 : Int) ≤ (k : Int) := by omega
      have l1 : (k : Int) < (xs.length : Int) := by omega
      generalize sumT xs k = s at *
      generalize xs.getD k 0 = x at *
      by_cases c1 : x < 1
      · go_wp2
        go_ret
        exact ⟨by rw [HB.out (.inl c1)]; rfl, rfl⟩
      by_cases c2 : 8 < x
      · go_wp2
        go_ret
        exact ⟨by rw [HB.out (.inr c2)]; rfl, rfl⟩
      · go_wp2
        go_roundw
        case rel => exact ⟨k + 1, by omega, by go_num, by rw [HS.out], HK.out (by omega) (by omega), trivial⟩
        case measure => simp [intOf]; omega
    · obtain rfl : k = xs.length := by omega
      have HV : Hid (sideI xs = sumT xs xs.length) := sideI_good (by omega) HG.out
      go_wp2
      go_ret
      exact ⟨by rw [HV.out]; rfl, rfl⟩

set_option maxHeartbeats 800000 in
theorem specSum (a : Option Addr) (cap : Nat) (xs : List Int) (w : World) (ht : Ints w a xs) (hl : xs.length ≤ maxLen) :
    Calls Tryd.prog 74 #[.slice a xs.length cap] w fun e w' => e = .returned (.int .i64 (sideI xs)) ∧ w' = w := by
  unfold maxLen at hl
  by_cases hsm : xs.length < 1
  · have HV : Hid (sideI xs = 0) := sideI_nil hsm
    go_enter Tryd.func74, Tryd.ntmps74
    go_wp2
    go_ret
    exact ⟨by rw [HV.out]; rfl, rfl⟩
  by_cases hbig : 4 < xs.length
  · have HV : Hid (sideI xs = 0) := sideI_big hbig
    go_enter Tryd.func74, Tryd.ntmps74
    go_wp2
    go_ret
    exact ⟨by rw [HV.out]; rfl, rfl⟩
  have HT : Hid (Ints w a xs) := ht
  clear ht
  have hl' : (xs.length : Int) ≤ 4 := by omega
  have hl1 : (1 : Int) ≤ (xs.length : Int) := by omega
  go_enter Tryd.func74, Tryd.ntmps74
  go_wp2
  go_loopw [3, 4] (fun v i wr => ∃ k : Nat, k ≤ xs.length ∧ i = .int .i64 k ∧ v = .int .i64 (sumT xs k) ∧ Hid (goodT xs k) ∧ wr = w)
    (fun _ i _ => xs.length - (intOf i).toNat)
  case atStart => exact ⟨0, Nat.zero_le _, rfl, rfl, goodT_zero xs, rfl⟩
  case round =>
    obtain ⟨k, hk, rfl, rfl, HG, rfl⟩ := hrel
    by_cases hlt : k < xs.length
    · rcases HT.out with h | ⟨b, off, rfl, hg, hc⟩
      · rw [h] at hlt; simp at hlt
      have d1 := hc k hlt
      have HS : Hid (sumT xs (k + 1) = sumT xs k + xs.getD k 0) := sumT_succ xs k hlt
      obtain ⟨s0, s1⟩ := sumT_bd xs k hk HG.out
      have HB : Hid (xs.getD k 0 < 1 ∨ 8 < xs.getD k 0 → sideI xs = 0) := sideI_bad k hlt
      have HK : Hid (1 ≤ xs.getD k 0 → xs.getD k 0 ≤ 8 → goodT xs (k + 1)) := fun h1 h2 => goodT_succ HG.out h1 h2
      clear hc
      have l0 : (0 : Int) ≤ (k : Int) := by omega
      have l1 : (k : Int) < (xs.length : Int) := by omega
      generalize sumT xs k = s at *
      generalize xs.getD k 0 = x at *
      by_cases c1 : 1 ≤ x ∧ x ≤ 8
      · have c2 : (decide ((1 : Int) ≤ x) && decide (x ≤ 8)) = true := by simp; omega
        obtain ⟨c3, c4⟩ := c1
        go_wp2_with (go_at_call 44; refine (in_any _ _ _ _).mono ?_; rintro e w1 ⟨rfl, hw⟩; subst w1)
        go_roundw
        case rel => exact ⟨k + 1, by omega, by go_num, by rw [HS.out], HK.out (by omega) (by omega), trivial⟩
        case measure => simp [intOf]; omega
      · have c2 : (decide ((1 : Int) ≤ x) && decide (x ≤ 8)) = false := by simp; omega
        go_wp2_with (go_at_call 44; refine (in_any _ _ _ _).mono ?_; rintro e w1 ⟨rfl, hw⟩; subst w1)
        go_ret
        exact ⟨by rw [HB.out (by omega)]; rfl, rfl⟩
    · obtain rfl : k = xs.length := by omega
      have HV : Hid (sideI xs = sumT xs xs.length) := sideI_good (by omega) HG.out
      go_wp2
      go_ret
      exact ⟨by rw [HV.out]; rfl, rfl⟩

set_option maxHeartbeats 800000 in
theorem implSquares (l b : Int) (a1 a2 : Option Addr) (c1 c2 : Nat) (xs ys : List Int) (w : World) (h1 : Ints w a1 xs) (h2 : Ints w a2 ys) (hl1 : xs.length ≤ maxLen) (hl2 : ys.length ≤ maxLen) :
    Calls Tryd.prog 80 #[.agg #[.int .i64 l, .int .i64 b, .slice a1 xs.length c1, .slice a2 ys.length c2]] w fun e w' => e = .returned (.int .i64 (sqI xs ys)) ∧ Below w.heap.size w w' := by
  have H1 : Hid (Ints w a1 xs ∧ xs.length ≤ maxLen) := ⟨h1, hl1⟩
  have H2 : Hid (Ints w a2 ys ∧ ys.length ≤ maxLen) := ⟨h2, hl2⟩
  obtain ⟨s0, s1⟩ := sqI_bd xs ys
  have HQ : Hid (sideI xs * sideI ys = sqI xs ys) := rfl
  clear h1 h2 hl1 hl2
  have hbA := ((Below.refl w.heap.size w).alloc (Nat.le_refl _) (.cells #[.int .i64 l, .int .i64 b, .slice a1 xs.length c1, .slice a2 ys.length c2] 26)).drew
  go_enter Tryd.func80, Tryd.ntmps80
  go_wp2_with fail
  go_region_held3 (fun w' => w'.cell? ⟨w.heap.size, 2, none⟩ = some (.slice a1 xs.length c1) ∧ w'.cell? ⟨w.heap.size, 3, none⟩ = some (.slice a2 ys.length c2)) (go_keep)
    ((go_at_call 95; refine (implSide _ _ _ _ (by first | exact H1.out.1.below hbA (Nat.le_refl _) | exact H2.out.1.below hbA (Nat.le_refl _)) (by first | exact H1.out.2 | exact H2.out.2)).mono ?_; rintro e w1 ⟨rfl, hw⟩; subst w1))
  go_wp2
  go_ret
  refine ⟨?_, hbA⟩
  show Ending.returned (.int .i64 (IntKind.i64.wrap (sideI xs * sideI ys))) = _
  rw [HQ.out, IntWalk.i64_in _ ⟨by omega, by omega⟩]

set_option maxHeartbeats 800000 in
theorem specSquares (l b : Int) (a1 a2 : Option Addr) (c1 c2 : Nat) (xs ys : List Int) (w : World) (h1 : Ints w a1 xs) (h2 : Ints w a2 ys) (hl1 : xs.length ≤ maxLen) (hl2 : ys.length ≤ maxLen) :
    Calls Tryd.prog 57 #[.agg #[.int .i64 l, .int .i64 b, .slice a1 xs.length c1, .slice a2 ys.length c2]] w fun e w' => e = .returned (.int .i64 (sqI xs ys)) ∧ Below w.heap.size w w' := by
  have H1 : Hid (Ints w a1 xs ∧ xs.length ≤ maxLen) := ⟨h1, hl1⟩
  have H2 : Hid (Ints w a2 ys ∧ ys.length ≤ maxLen) := ⟨h2, hl2⟩
  obtain ⟨s0, s1⟩ := sqI_bd xs ys
  have HQ : Hid (sideI xs * sideI ys = sqI xs ys) := rfl
  clear h1 h2 hl1 hl2
  have hbA := ((Below.refl w.heap.size w).alloc (Nat.le_refl _) (.cells #[.int .i64 l, .int .i64 b, .slice a1 xs.length c1, .slice a2 ys.length c2] 26)).drew
  go_enter Tryd.func57, Tryd.ntmps57
  go_wp2_with fail
  go_region_held3 (fun w' => w'.cell? ⟨w.heap.size, 2, none⟩ = some (.slice a1 xs.length c1) ∧ w'.cell? ⟨w.heap.size, 3, none⟩ = some (.slice a2 ys.length c2)) (go_keep)
    ((go_at_call 74; refine (specSum _ _ _ _ (by first | exact H1.out.1.below hbA (Nat.le_refl _) | exact H2.out.1.below hbA (Nat.le_refl _)) (by first | exact H1.out.2 | exact H2.out.2)).mono ?_; rintro e w1 ⟨rfl, hw⟩; subst w1))
  go_wp2
  go_ret
  refine ⟨?_, hbA⟩
  show Ending.returned (.int .i64 (IntKind.i64.wrap (sideI xs * sideI ys))) = _
  rw [HQ.out, IntWalk.i64_in _ ⟨by omega, by omega⟩]

end Go.Proofs.YtdokmojifkggjaaDoor
