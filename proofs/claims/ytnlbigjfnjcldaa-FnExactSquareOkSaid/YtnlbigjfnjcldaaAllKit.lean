/-
  Whether all numbers of a list are within -M .. M: the walks of impl.allWithin and spec.l09All; the numbers of a list as a function.
-/
import Derived.Test.YtnlbigjfnjcldaaIntKit
import Derived.Test.YtnlbigjfnjcldaaInKit
namespace Go.Proofs.Ytnlbigjfnjcldaa
open Go.RowKit
set_option linter.unusedVariables false
set_option maxRecDepth 20000

/-- The first n numbers of a function. -/
def listF (n : Nat) (f : Nat → Int) : List Int := (List.range n).map f
theorem listF_length (n : Nat) (f : Nat → Int) : (listF n f).length = n := by simp [listF]
theorem listF_get {n i : Nat} (f : Nat → Int) (h : i < n) : (listF n f).getD i 0 = f i := by
  unfold listF
  rw [List.getD_eq_getElem?_getD, List.getElem?_map, List.getElem?_range h]
  rfl
theorem listF_congr {n : Nat} {f g : Nat → Int} (h : ∀ i, i < n → f i = g i) : listF n f = listF n g := by
  unfold listF
  apply List.map_congr_left
  intro i hi
  exact h i (List.mem_range.1 hi)
theorem listF_self (xs : List Int) : listF xs.length (fun i => xs.getD i 0) = xs := by
  apply List.ext_getElem
  · simp [listF]
  · intro i h1 h2
    simp [listF, h2]
theorem listF_append (n m : Nat) (f : Nat → Int) : listF n f ++ listF m (fun i => f (n + i)) = listF (n + m) f := by
  unfold listF
  rw [List.range_add, List.map_append, List.map_map]
  rfl
/-- All numbers are within -M .. M. -/
def inB (M : Int) (xs : List Int) : Bool := xs.all (fun x => decide (-M ≤ x) && decide (x ≤ M))
theorem inB_iff {M : Int} {xs : List Int} : inB M xs = true ↔ ∀ i, i < xs.length → -M ≤ xs.getD i 0 ∧ xs.getD i 0 ≤ M := by
  unfold inB
  rw [List.all_eq_true]
  constructor
  · intro h i hi
    have := h (xs.getD i 0) (by rw [List.getD_eq_getElem?_getD, List.getElem?_eq_getElem hi]; exact List.getElem_mem _)
    simpa using this
  · intro h x hx
    obtain ⟨i, hi, rfl⟩ := List.mem_iff_getElem.1 hx
    have := h i hi
    rw [List.getD_eq_getElem?_getD, List.getElem?_eq_getElem hi] at this
    simpa using this
theorem inB_no {M : Int} {xs : List Int} {k : Nat} (hk : k < xs.length) (h : ¬ (-M ≤ xs.getD k 0 ∧ xs.getD k 0 ≤ M)) : inB M xs = false := by
  cases hb : inB M xs with
  | false => rfl
  | true => exact absurd (inB_iff.1 hb k hk) h

set_option maxHeartbeats 800000 in
theorem implAll (a : Option Addr) (cap : Nat) (xs : List Int) (M : Int) (w : World) (h : Ints w a xs) (hl : xs.length ≤ maxLen) (m0 : 0 ≤ M) (m1 : M ≤ 100000000) :
    Calls Try.prog 36 #[.slice a xs.length cap, .int .i64 M] w fun e w' => e = .returned (.bool (inB M xs)) ∧ Below w.heap.size w w' := by
  have H : Hid (Ints w a xs) := h
  unfold maxLen at hl
  clear h
  go_enter Try.func36, Try.ntmps36
  go_wp2
  go_loopw [9] (fun i wr => ∃ k : Nat, k ≤ xs.length ∧ i = .int .i64 (k : Int) ∧ Hid (∀ j, j < k → -M ≤ xs.getD j 0 ∧ xs.getD j 0 ≤ M) ∧ Below w.heap.size w wr) (fun i _ => xs.length - (intOf i).toNat)
  case atStart => exact ⟨0, Nat.zero_le _, rfl, fun j hj => by omega, Below.refl _ _⟩
  case round =>
    obtain ⟨k, hk, rfl, HN, hb⟩ := hrel
    by_cases hlt : k < xs.length
    · rcases (H.out.below hb (Nat.le_refl _)) with h0 | ⟨b, off, rfl, hg, hc⟩
      · rw [h0] at hlt; simp at hlt
      have d1 := hc k hlt
      clear hc
      have l0 : (0 : Int) ≤ (k : Int) := by omega
      have l1 : (k : Int) < (xs.length : Int) := by omega
      obtain ⟨x, hx⟩ : ∃ x, xs.getD k 0 = x := ⟨_, rfl⟩
      have HX : Hid (xs.getD k 0 = x) := hx
      rw [hx] at d1
      clear hx
      by_cases c1 : x < -M
      · have HV : Hid (inB M xs = false) := inB_no hlt (by rw [HX.out]; omega)
        go_wp2
        go_ret
        exact ⟨by rw [HV.out]; rfl, hb⟩
      · by_cases c2 : M < x
        · have HV : Hid (inB M xs = false) := inB_no hlt (by rw [HX.out]; omega)
          go_wp2
          go_ret
          exact ⟨by rw [HV.out]; rfl, hb⟩
        · go_wp2
          go_roundw
          case rel => exact ⟨k + 1, by omega, by go_num, fun j hj => by
            rcases Nat.lt_succ_iff_lt_or_eq.1 hj with h | rfl
            · exact HN.out j h
            · rw [HX.out]; omega, hb⟩
          case measure => simp [intOf]; omega
    · obtain rfl : k = xs.length := by omega
      have HV : Hid (inB M xs = true) := inB_iff.2 HN.out
      go_wp2
      go_ret
      exact ⟨by rw [HV.out]; rfl, hb⟩

set_option maxHeartbeats 800000 in
theorem specAll (a : Option Addr) (cap n : Nat) (xs : List Int) (M : Int) (w : World) (h : Ints w a xs) (hl : xs.length ≤ maxLen) (m0 : 0 ≤ M) (m1 : M ≤ 100000000) :
    Calls Try.prog 11 #[.slice a xs.length cap, .int .i64 (n : Int), .int .i64 M] w fun e w' => e = .returned (.bool (decide (xs.length = n) && inB M xs)) ∧ Below w.heap.size w w' := by
  have H : Hid (Ints w a xs) := h
  unfold maxLen at hl
  clear h
  by_cases hn : xs.length = n
  · have hd : decide (xs.length = n) = true := by simpa using hn
    rw [hd, Bool.true_and, ← hn]
    clear hd hn n
    go_enter Try.func11, Try.ntmps11
    go_wp2
    go_loopw [7] (fun i wr => ∃ k : Nat, k ≤ xs.length ∧ i = .int .i64 (k : Int) ∧ Hid (∀ j, j < k → -M ≤ xs.getD j 0 ∧ xs.getD j 0 ≤ M) ∧ Below w.heap.size w wr) (fun i _ => xs.length - (intOf i).toNat)
    case atStart => exact ⟨0, Nat.zero_le _, rfl, fun j hj => by omega, Below.refl _ _⟩
    case round =>
      obtain ⟨k, hk, rfl, HN, hb⟩ := hrel
      by_cases hlt : k < xs.length
      · rcases (H.out.below hb (Nat.le_refl _)) with h0 | ⟨b, off, rfl, hg, hc⟩
        · rw [h0] at hlt; simp at hlt
        have d1 := hc k hlt
        clear hc
        have l0 : (0 : Int) ≤ (k : Int) := by omega
        have l1 : (k : Int) < (xs.length : Int) := by omega
        obtain ⟨x, hx⟩ : ∃ x, xs.getD k 0 = x := ⟨_, rfl⟩
        have HX : Hid (xs.getD k 0 = x) := hx
        rw [hx] at d1
        clear hx
        by_cases c1 : -M ≤ x ∧ x ≤ M
        · have CI := in_any x (-M) M wr
          have e1 : (decide (-M ≤ x) && decide (x ≤ M)) = true := by simp [c1.1, c1.2]
          rw [e1] at CI
          have HC : Hid (Calls Try.prog 10 #[.int .i64 x, .int .i64 (-M), .int .i64 M] wr _) := CI
          clear CI e1
          go_wp2_with (go_at_call 10; refine HC.out.mono ?_; rintro e w1 ⟨rfl, hw⟩; subst w1)
          go_roundw
          case rel => exact ⟨k + 1, by omega, by go_num, fun j hj => by
            rcases Nat.lt_succ_iff_lt_or_eq.1 hj with h | rfl
            · exact HN.out j h
            · rw [HX.out]; omega, hb⟩
          case measure => simp [intOf]; omega
        · have HV : Hid (inB M xs = false) := inB_no hlt (by rw [HX.out]; exact c1)
          have CI := in_any x (-M) M wr
          have e1 : (decide (-M ≤ x) && decide (x ≤ M)) = false := by simp; omega
          rw [e1] at CI
          have HC : Hid (Calls Try.prog 10 #[.int .i64 x, .int .i64 (-M), .int .i64 M] wr _) := CI
          clear CI e1 c1
          go_wp2_with (go_at_call 10; refine HC.out.mono ?_; rintro e w1 ⟨rfl, hw⟩; subst w1)
          go_ret
          exact ⟨by rw [HV.out]; rfl, hb⟩
      · obtain rfl : k = xs.length := by omega
        have HV : Hid (inB M xs = true) := inB_iff.2 HN.out
        go_wp2
        go_ret
        exact ⟨by rw [HV.out]; rfl, hb⟩
  · have hd : decide (xs.length = n) = false := by simpa using hn
    rw [hd, Bool.false_and]
    have hq : ((xs.length : Int) == (n : Int)) = false := by rw [beq_eq_false_iff_ne]; omega
    have hq' : (xs.length == n) = false := by rw [beq_eq_false_iff_ne]; omega
    clear hd
    go_enter Try.func11, Try.ntmps11
    go_wp2
    go_ret
    exact ⟨rfl, Below.refl _ _⟩
end Go.Proofs.Ytnlbigjfnjcldaa
