/-
  Rows of integers, wherever they lie: the walks of laws.szIntS, laws.toIntS and laws.eqIntS.
  Whether all numbers of a list are within -M .. M: the walks of impl.allWithin and spec.l09All; the numbers of a list as a function.
  Rows of numbers that a call owns: what they are as rows wherever they lie, and one that is divided place by place.
  A row of numbers that a call owns has room for as many as it has.
  Lists of 64 numbers within bounds.
  Numbers that are put, one behind the other, over others.
  Lists of 64: the walk of impl.numberSquareOk.
  Marks in a list of numbers: the walks of laws.markIntS and laws.heldIntS.
  When a square is right.
-/
import Derived.Test.YtnlbigjfnjcldaaGreatRows
import Derived.WalkKit
import Derived.WalkSpells
import Derived.StillTactics
import Derived.OwnWalk
import Derived.Deep.RegionHeld3
import Derived.Deep.DrawnRows
import Derived.KernelRfl
import Derived.OneCell
import Derived.Deep.QuietTactic
import Derived.BigQuiet
import Derived.Laws.OwnMore
import Derived.WalkSmall
import Derived.Test.YtnlbigjfnjcldaaGreatInKit
import Derived.Deep.AppendLies
set_option maxRecDepth 20000
namespace Go.Proofs.YtnlbigjfnjcldaaGreat
open Go.RowKit
set_option linter.unusedVariables false
set_option maxRecDepth 20000
attribute [local go_sem ↓] Go.wp_at_zero Go.wp_at_succ

/-- A row of integers, wherever it lies. -/
def Ints (w : World) (a : Option Addr) (xs : List Int) : Prop :=
  xs = [] ∨ ∃ b off, a = some ⟨b, off, none⟩ ∧ b < w.heap.size ∧ ∀ i, i < xs.length → w.cell? ⟨b, off + i, none⟩ = some (.int .i64 (xs.getD i 0))
theorem Ints.below {w w' : World} {a : Option Addr} {xs : List Int} {B : Nat} (h : Ints w a xs) (hb : Below B w w') (hB : w.heap.size ≤ B) : Ints w' a xs := by
  rcases h with h | ⟨b, off, rfl, hg, hc⟩
  · exact .inl h
  · exact .inr ⟨b, off, rfl, Nat.lt_of_lt_of_le hg hb.size, fun i hi => (hb.cell (p := ⟨b, off + i, none⟩) (Nat.lt_of_lt_of_le hg hB)).trans (hc i hi)⟩
theorem Ints.set {w : World} {a : Option Addr} {xs : List Int} (h : Ints w a xs) (q : Addr) (v : Value) (hq : ∀ p, a = some p → q.block < p.block) : Ints (w.setCell q v) a xs := by
  rcases h with h | ⟨b, off, rfl, hg, hc⟩
  · exact .inl h
  · refine .inr ⟨b, off, rfl, by simpa using hg, fun i hi => ?_⟩
    have := hq _ rfl
    rw [World.cell?_setCell_other _ _ _ _ (by intro h; rw [h] at this; simp at this)]
    exact hc i hi
theorem infoI : (Tryz.prog.info? 3).map (fun i => (i.zero, i.size, i.bytes)) = some (some (.int .i64 0), 1, 8) := by kernel_rfl
theorem ints_of_owns {w : World} {B n : Nat} {v : Value} {xs : List Int} (h : w.ownsRow B 3 1 v n (xs.map (Value.int .i64))) : ∃ a c, v = .slice a xs.length c ∧ Ints w a xs ∧ ∀ p, a = some p → B ≤ p.block := by
  have hl := h.1
  simp at hl
  rcases h.2 with ⟨rfl, rfl⟩ | ⟨g, cap, cur, rfl, hb, hg, hn, hm, hsz, htake⟩
  · have : xs = [] := List.eq_nil_of_length_eq_zero hl
    subst this
    exact ⟨_, _, rfl, .inl rfl, fun p hp => by cases hp⟩
  · refine ⟨some ⟨g, 0, none⟩, cap, by rw [hl], .inr ⟨g, 0, rfl, (Array.getElem?_eq_some_iff.1 hg).1, fun i hi => ?_⟩, fun p hp => by cases hp; exact hb⟩
    rw [Nat.zero_add, cell_of_row w g i cur 3 (0, 0) hg]
    have e1 : (cur.toList.take (n * 1))[i]? = (xs.map (Value.int .i64))[i]? := by rw [htake]
    rw [List.getElem?_take, if_pos (by omega)] at e1
    simp [List.getElem?_eq_getElem hi] at e1 ⊢
    exact e1

set_option maxHeartbeats 400000 in
theorem szIntS_any (a : Option Addr) (n cap : Nat) (L : Int) (w : World) (hn : n ≤ maxLen) (h0 : 0 ≤ L) (h1 : L ≤ 1048576) :
    Calls Tryz.prog 36 #[.slice a n cap, .int .i64 L] w fun e w' => (e = .returned (.int .i64 (-1)) ∨ ∃ r : Int, e = .returned (.int .i64 r) ∧ 0 ≤ r ∧ r ≤ 1048576 ∧ (n : Int) ≤ 1048576) ∧ w' = w := by
  have hn' : (n : Int) ≤ 9223372036854775807 := by unfold maxLen at hn; omega
  by_cases h : L < (n : Int)
  · go_enter Tryz.func36, Tryz.ntmps36
    go_wp2
    go_ret
    exact ⟨.inl rfl, rfl⟩
  · go_enter Tryz.func36, Tryz.ntmps36
    go_wp2
    go_ret
    exact ⟨.inr ⟨L - n, rfl, by omega, by omega, by omega⟩, rfl⟩

/-- The numbers that lie in the copy when the first j are put. -/
def intUp (xs : List Int) (j i : Nat) : Int := if i < j then xs.getD i 0 else 0
theorem intUp_full (xs : List Int) : (List.range xs.length).map (intUp xs xs.length) = xs := by
  apply List.ext_getElem
  · simp
  · intro i h1 h2
    simp [intUp, h2]
theorem int_range_set {α : Type} (n j : Nat) (f g : Nat → α) (h : ∀ i, i ≠ j → f i = g i) : ((List.range n).map f).set j (g j) = (List.range n).map g := by
  apply List.ext_getElem
  · simp
  · intro i h1 h2
    rw [List.getElem_set]
    by_cases hij : j = i
    · subst hij; simp
    · rw [if_neg hij]; simp; exact h i (fun h => hij h.symm)
theorem intUp_set (xs : List Int) (n j : Nat) : (((List.range n).map (intUp xs j)).map (Value.int .i64)).set j (.int .i64 (xs.getD j 0)) = ((List.range n).map (intUp xs (j + 1))).map (Value.int .i64) := by
  rw [List.map_map, List.map_map]
  have e : Value.int .i64 (xs.getD j 0) = (Value.int .i64 ∘ intUp xs (j + 1)) j := by simp [intUp]
  rw [e]
  refine int_range_set n j _ _ (fun i hi => ?_)
  simp only [Function.comp, intUp]
  by_cases h : i < j
  · simp [h, Nat.lt_succ_of_lt h]
  · simp [h, show ¬ i < j + 1 by omega]
theorem int_made (n : Nat) : (madeCells (Value.int .i64 0).cells (n * 1)).toList = (List.range n).map (fun _ => Value.int .i64 0) := by
  rw [Nat.mul_one]
  apply List.ext_getElem?
  intro i
  simp [madeCells, Value.cells, Nat.mod_one]
theorem intUp_zero (xs : List Int) (n : Nat) : (madeCells (Value.int .i64 0).cells (n * 1)).toList = ((List.range n).map (intUp xs 0)).map (Value.int .i64) := by
  rw [int_made, List.map_map]; apply List.map_congr_left; intro i hi; simp [intUp]

set_option maxHeartbeats 800000 in
theorem toIntS_any (a : Option Addr) (cap : Nat) (xs : List Int) (w : World) (ht : Ints w a xs) (hl : xs.length ≤ 1048576) :
    Calls Tryz.prog 40 #[.slice a xs.length cap] w fun e w' => ∃ v, e = .returned v ∧ w'.ownsRow w.heap.size 3 1 v xs.length (xs.map (Value.int .i64)) ∧ Below w.heap.size w w' := by
  obtain ⟨i0, hi0, hz0, hz1, hz2⟩ := info_parts infoI
  have HT : Hid (Ints w a xs) := ht
  clear ht
  obtain ⟨n, hn⟩ : ∃ n, n = xs.length := ⟨_, rfl⟩
  have HN : Hid (n = xs.length) := hn
  rw [← hn] at hl ⊢
  clear hn
  have hl' : (n : Int) ≤ 1048576 := by omega
  go_enter Tryz.func40, Tryz.ntmps40
  go_wp2_with (at_make; refine wpList_make_full _ (by rfl) _ _ 32 (by rfl) w.heap.size 3 i0 (.int .i64 0) 1 Tryz.underlying32 hi0 hz0 hz1 .i64 .i64 _ _ n (by rfl) (by rfl) (by rfl) (by rfl) (by rw [hz2]; omega) (by unfold maxLen; omega) (Nat.le_refl _) ?_; intro w1 hown0 hgrow0)
  have hb0 : Below w.heap.size w w1 := (Below.refl _ _).grown hgrow0 (Nat.le_refl _) (fun j hj => by cases hj)
  rw [intUp_zero xs] at hown0
  clear hgrow0
  go_loopw [4] (fun i wr => ∃ j : Nat, j ≤ n ∧ i = .int .i64 j ∧ wr.ownsRow w.heap.size 3 1 (.slice (some ⟨w.heap.size, 0, none⟩) n n) n (((List.range n).map (intUp xs j)).map (Value.int .i64)) ∧ Below w.heap.size w wr)
    (fun i _ => n - (intOf i).toNat)
  case atStart => exact ⟨0, Nat.zero_le _, rfl, hown0, hb0⟩
  case round =>
    obtain ⟨j, hj, rfl, hown, hb⟩ := hrel
    clear hown0 hb0
    by_cases hlt : j < n
    · have hlt' : j < xs.length := by rw [← HN.out]; exact hlt
      rcases HT.out with h | ⟨b, off, rfl, hg, hc⟩
      · rw [h] at hlt'; simp at hlt'
      have d1 : wr.cell? ⟨b, off + j, none⟩ = some (.int .i64 (xs.getD j 0)) := (hb.cell (p := ⟨b, off + j, none⟩) hg).trans (hc j hlt')
      have hq0 : (0 : Int) ≤ (j : Int) := by omega
      have hq : (j : Int) < (n : Int) := by omega
      have hcc := hown.cellAt j (by omega)
      have hfz := hown.frozenAt j
      have hc' : wr.cell? ⟨w.heap.size, j, none⟩ = some (.int .i64 (intUp xs j j)) := by rw [hcc]; simp [hlt]
      have hst := hown.stored j (.int .i64 (xs.getD j 0))
      clear hcc hc hlt'
      have hbs := hb.grown hst.2 hb.size (fun j hj => by cases hj; exact Nat.le_refl _)
      have hos := hst.1
      rw [intUp_set] at hos
      clear hst
      generalize xs.getD j 0 = x at *
      go_wp2
      go_roundw
      case rel => exact ⟨j + 1, by omega, by go_num, hos, hbs⟩
      case measure => simp [intOf]; omega
    · obtain rfl : j = n := by omega
      have hown' := hown
      rw [HN.out, intUp_full, ← HN.out] at hown'
      go_wp2
      go_ret
      exact ⟨_, rfl, hown', hb⟩

set_option maxHeartbeats 800000 in
theorem eqIntS_any (a1 a2 : Option Addr) (c1 c2 : Nat) (xs : List Int) (w : World) (h1 : Ints w a1 xs) (h2 : Ints w a2 xs) (hx : xs.length ≤ 2000000) :
    Calls Tryz.prog 41 #[.slice a1 xs.length c1, .slice a2 xs.length c2] w fun e w' => e = .returned (.bool true) ∧ Below w.heap.size w w' := by
  rcases h1 with rfl | ⟨b1, o1, rfl, hg1, hc1⟩
  · go_enter Tryz.func41, Tryz.ntmps41
    go_wp2
    refine wp_loop_rounds 1 ?_
    rw [rounds_succ]
    go_wp2
    go_ret
    exact ⟨rfl, Below.refl _ _⟩
  · rcases h2 with rfl | ⟨b2, o2, rfl, hg2, hc2⟩
    · go_enter Tryz.func41, Tryz.ntmps41
      go_wp2
      refine wp_loop_rounds 1 ?_
      rw [rounds_succ]
      go_wp2
      go_ret
      exact ⟨rfl, Below.refl _ _⟩
    · have H1 : Hid (∀ i, i < xs.length → w.cell? ⟨b1, o1 + i, none⟩ = some (.int .i64 (xs.getD i 0))) := hc1
      have H2 : Hid (∀ i, i < xs.length → w.cell? ⟨b2, o2 + i, none⟩ = some (.int .i64 (xs.getD i 0))) := hc2
      clear hc1 hc2
      go_enter Tryz.func41, Tryz.ntmps41
      go_wp2
      go_loopw [5] (fun i wr => ∃ k : Nat, k ≤ xs.length ∧ i = .int .i64 k ∧ Below w.heap.size w wr) (fun i _ => xs.length - (intOf i).toNat)
      case atStart => exact ⟨0, Nat.zero_le _, rfl, Below.refl _ _⟩
      case round =>
        obtain ⟨k, hk, rfl, hb⟩ := hrel
        by_cases hlt : k < xs.length
        · obtain ⟨x, hx⟩ : ∃ x, x = xs.getD k 0 := ⟨_, rfl⟩
          have d1 : wr.cell? ⟨b1, o1 + k, none⟩ = some (.int .i64 x) := by rw [hx]; exact (hb.cell (p := ⟨b1, o1 + k, none⟩) hg1).trans (H1.out k hlt)
          have d2 : wr.cell? ⟨b2, o2 + k, none⟩ = some (.int .i64 x) := by rw [hx]; exact (hb.cell (p := ⟨b2, o2 + k, none⟩) hg2).trans (H2.out k hlt)
          clear hx
          have l0 : (0 : Int) ≤ (k : Int) := by omega
          have l1 : (k : Int) < (xs.length : Int) := by omega
          go_wp2_with fail
          go_quiet (fail)
          go_wp2
          go_roundw
          case rel => exact ⟨k + 1, by omega, by go_num, below_drewN hb _⟩
          case measure => simp [intOf]; omega
        · go_wp2
          go_ret
          exact ⟨rfl, hb⟩
end Go.Proofs.YtnlbigjfnjcldaaGreat

namespace Go.Proofs.YtnlbigjfnjcldaaGreat
open Go.RowKit
set_option linter.unusedVariables false

/-- The first n numbers of a function. -/
def listF (n : Nat) (f : Nat → Int) : List Int := (List.range n).map f
theorem listF_length (n : Nat) (f : Nat → Int) : (listF n f).length = n := by simp [listF]
theorem listF_get {n i : Nat} (f : Nat → Int) (h : i < n) : (listF n f).getD i 0 = f i := by
  unfold listF
  rw [List.getD_eq_getElem?_getD, List.getElem?_map, List.getElem?_range h]
  rfl
theorem listF_congr {n : Nat} {f g : Nat → Int} (h : ∀ i, i < n → f i = g i) : listF n f = listF n g := by
  unfold listF
  apply List.map_congr_left
  intro i hi
  exact h i (List.mem_range.1 hi)
theorem listF_self (xs : List Int) : listF xs.length (fun i => xs.getD i 0) = xs := by
  apply List.ext_getElem
  · simp [listF]
  · intro i h1 h2
    simp [listF, h2]
theorem listF_append (n m : Nat) (f : Nat → Int) : listF n f ++ listF m (fun i => f (n + i)) = listF (n + m) f := by
  unfold listF
  rw [List.range_add, List.map_append, List.map_map]
  rfl
/-- All numbers are within -M .. M. -/
def inB (M : Int) (xs : List Int) : Bool := xs.all (fun x => decide (-M ≤ x) && decide (x ≤ M))
theorem inB_iff {M : Int} {xs : List Int} : inB M xs = true ↔ ∀ i, i < xs.length → -M ≤ xs.getD i 0 ∧ xs.getD i 0 ≤ M := by
  unfold inB
  rw [List.all_eq_true]
  constructor
  · intro h i hi
    have := h (xs.getD i 0) (by rw [List.getD_eq_getElem?_getD, List.getElem?_eq_getElem hi]; exact List.getElem_mem _)
    simpa using this
  · intro h x hx
    obtain ⟨i, hi, rfl⟩ := List.mem_iff_getElem.1 hx
    have := h i hi
    rw [List.getD_eq_getElem?_getD, List.getElem?_eq_getElem hi] at this
    simpa using this
theorem inB_no {M : Int} {xs : List Int} {k : Nat} (hk : k < xs.length) (h : ¬ (-M ≤ xs.getD k 0 ∧ xs.getD k 0 ≤ M)) : inB M xs = false := by
  cases hb : inB M xs with
  | false => rfl
  | true => exact absurd (inB_iff.1 hb k hk) h

set_option maxHeartbeats 800000 in
theorem implAll (a : Option Addr) (cap : Nat) (xs : List Int) (M : Int) (w : World) (h : Ints w a xs) (hl : xs.length ≤ maxLen) (m0 : 0 ≤ M) (m1 : M ≤ 100000000) :
    Calls Tryz.prog 119 #[.slice a xs.length cap, .int .i64 M] w fun e w' => e = .returned (.bool (inB M xs)) ∧ Below w.heap.size w w' := by
  have H : Hid (Ints w a xs) := h
  unfold maxLen at hl
  clear h
  go_enter Tryz.func119, Tryz.ntmps119
  go_wp2
  go_loopw [9] (fun i wr => ∃ k : Nat, k ≤ xs.length ∧ i = .int .i64 (k : Int) ∧ Hid (∀ j, j < k → -M ≤ xs.getD j 0 ∧ xs.getD j 0 ≤ M) ∧ Below w.heap.size w wr) (fun i _ => xs.length - (intOf i).toNat)
  case atStart => exact ⟨0, Nat.zero_le _, rfl, fun j hj => by omega, Below.refl _ _⟩
  case round =>
    obtain ⟨k, hk, rfl, HN, hb⟩ := hrel
    by_cases hlt : k < xs.length
    · rcases (H.out.below hb (Nat.le_refl _)) with h0 | ⟨b, off, rfl, hg, hc⟩
      · rw [h0] at hlt; simp at hlt
      have d1 := hc k hlt
      clear hc
      have l0 : (0 : Int) ≤ (k : Int) := by omega
      have l1 : (k : Int) < (xs.length : Int) := by omega
      obtain ⟨x, hx⟩ : ∃ x, xs.getD k 0 = x := ⟨_, rfl⟩
      have HX : Hid (xs.getD k 0 = x) := hx
      rw [hx] at d1
      clear hx
      by_cases c1 : x < -M
      · have HV : Hid (inB M xs = false) := inB_no hlt (by rw [HX.out]; omega)
        go_wp2
        go_ret
        exact ⟨by rw [HV.out]; rfl, hb⟩
      · by_cases c2 : M < x
        · have HV : Hid (inB M xs = false) := inB_no hlt (by rw [HX.out]; omega)
          go_wp2
          go_ret
          exact ⟨by rw [HV.out]; rfl, hb⟩
        · go_wp2
          go_roundw
          case rel => exact ⟨k + 1, by omega, by go_num, fun j hj => by
            rcases Nat.lt_succ_iff_lt_or_eq.1 hj with h | rfl
            · exact HN.out j h
            · rw [HX.out]; omega, hb⟩
          case measure => simp [intOf]; omega
    · obtain rfl : k = xs.length := by omega
      have HV : Hid (inB M xs = true) := inB_iff.2 HN.out
      go_wp2
      go_ret
      exact ⟨by rw [HV.out]; rfl, hb⟩

set_option maxHeartbeats 800000 in
theorem specAll (a : Option Addr) (cap n : Nat) (xs : List Int) (M : Int) (w : World) (h : Ints w a xs) (hl : xs.length ≤ maxLen) (m0 : 0 ≤ M) (m1 : M ≤ 100000000) :
    Calls Tryz.prog 55 #[.slice a xs.length cap, .int .i64 (n : Int), .int .i64 M] w fun e w' => e = .returned (.bool (decide (xs.length = n) && inB M xs)) ∧ Below w.heap.size w w' := by
  have H : Hid (Ints w a xs) := h
  unfold maxLen at hl
  clear h
  by_cases hn : xs.length = n
  · have hd : decide (xs.length = n) = true := by simpa using hn
    rw [hd, Bool.true_and, ← hn]
    clear hd hn n
    go_enter Tryz.func55, Tryz.ntmps55
    go_wp2
    go_loopw [7] (fun i wr => ∃ k : Nat, k ≤ xs.length ∧ i = .int .i64 (k : Int) ∧ Hid (∀ j, j < k → -M ≤ xs.getD j 0 ∧ xs.getD j 0 ≤ M) ∧ Below w.heap.size w wr) (fun i _ => xs.length - (intOf i).toNat)
    case atStart => exact ⟨0, Nat.zero_le _, rfl, fun j hj => by omega, Below.refl _ _⟩
    case round =>
      obtain ⟨k, hk, rfl, HN, hb⟩ := hrel
      by_cases hlt : k < xs.length
      · rcases (H.out.below hb (Nat.le_refl _)) with h0 | ⟨b, off, rfl, hg, hc⟩
        · rw [h0] at hlt; simp at hlt
        have d1 := hc k hlt
        clear hc
        have l0 : (0 : Int) ≤ (k : Int) := by omega
        have l1 : (k : Int) < (xs.length : Int) := by omega
        obtain ⟨x, hx⟩ : ∃ x, xs.getD k 0 = x := ⟨_, rfl⟩
        have HX : Hid (xs.getD k 0 = x) := hx
        rw [hx] at d1
        clear hx
        by_cases c1 : -M ≤ x ∧ x ≤ M
        · have CI := in_any x (-M) M wr
          have e1 : (decide (-M ≤ x) && decide (x ≤ M)) = true := by simp [c1.1, c1.2]
          rw [e1] at CI
          have HC : Hid (Calls Tryz.prog 43 #[.int .i64 x, .int .i64 (-M), .int .i64 M] wr _) := CI
          clear CI e1
          go_wp2_with (go_at_call 43; refine HC.out.mono ?_; rintro e w1 ⟨rfl, hw⟩; subst w1)
          go_roundw
          case rel => exact ⟨k + 1, by omega, by go_num, fun j hj => by
            rcases Nat.lt_succ_iff_lt_or_eq.1 hj with h | rfl
            · exact HN.out j h
            · rw [HX.out]; omega, hb⟩
          case measure => simp [intOf]; omega
        · have HV : Hid (inB M xs = false) := inB_no hlt (by rw [HX.out]; exact c1)
          have CI := in_any x (-M) M wr
          have e1 : (decide (-M ≤ x) && decide (x ≤ M)) = false := by simp; omega
          rw [e1] at CI
          have HC : Hid (Calls Tryz.prog 43 #[.int .i64 x, .int .i64 (-M), .int .i64 M] wr _) := CI
          clear CI e1 c1
          go_wp2_with (go_at_call 43; refine HC.out.mono ?_; rintro e w1 ⟨rfl, hw⟩; subst w1)
          go_ret
          exact ⟨by rw [HV.out]; rfl, hb⟩
      · obtain rfl : k = xs.length := by omega
        have HV : Hid (inB M xs = true) := inB_iff.2 HN.out
        go_wp2
        go_ret
        exact ⟨by rw [HV.out]; rfl, hb⟩
  · have hd : decide (xs.length = n) = false := by simpa using hn
    rw [hd, Bool.false_and]
    have hq : ((xs.length : Int) == (n : Int)) = false := by rw [beq_eq_false_iff_ne]; omega
    have hq' : (xs.length == n) = false := by rw [beq_eq_false_iff_ne]; omega
    clear hd
    go_enter Tryz.func55, Tryz.ntmps55
    go_wp2
    go_ret
    exact ⟨rfl, Below.refl _ _⟩
end Go.Proofs.YtnlbigjfnjcldaaGreat

namespace Go.Proofs.YtnlbigjfnjcldaaGreat
open Go.RowKit
set_option linter.unusedVariables false

theorem own_mono {w : World} {B B' n s : Nat} {e : TypeId} {v : Value} {xs : List Value} (h : w.ownsRow B e s v n xs) (hB : B' ≤ B) : w.ownsRow B' e s v n xs := by
  refine ⟨h.1, ?_⟩
  rcases h.2 with h | ⟨g, cap, cur, h1, h2, h3⟩
  · exact .inl h
  · exact .inr ⟨g, cap, cur, h1, Nat.le_trans hB h2, h3⟩
theorem owned_ints {w : World} {B n : Nat} {v : Value} {g : Nat → Int} (h : w.ownsRow B 3 1 v n ((listF n g).map (Value.int .i64))) : ∃ p c, v = .slice p n c ∧ Ints w p (listF n g) := by
  obtain ⟨p, c, hv, hi, _⟩ := ints_of_owns h
  rw [listF_length] at hv
  exact ⟨p, c, hv, hi⟩
theorem grown_of_below {w w' : World} (hb : Below w.heap.size w w') (row : Option Nat) : w.grownBy w' row := ⟨hb.os, hb.tape, hb.output, hb.size, fun k hk _ => hb.block k hk⟩
theorem owned_below {w w' : World} {B n s : Nat} {e : TypeId} {v : Value} {xs : List Value} (h : w.ownsRow B e s v n xs) (hb : Below w.heap.size w w') : w'.ownsRow B e s v n xs :=
  h.kept (grown_of_below hb none) (by
    cases hq : v.ownBlock with
    | none => exact .inl rfl
    | some g => exact .inr (by simp))
theorem owned_at {w : World} {B c : Nat} {p : Option Addr} {xs : List Int} (h : w.ownsRow B 3 1 (.slice p xs.length c) xs.length (xs.map (Value.int .i64))) : Ints w p xs := by
  obtain ⟨a', c', e, i, _⟩ := ints_of_owns h
  cases e
  exact i
theorem own_none (w : World) {B : Nat} (hB : B ≤ w.heap.size) : (w.alloc (.cells #[] 3)).ownsRow B 3 1 (.slice (some ⟨w.heap.size, 0, none⟩) 0 0) 0 (([] : List Int).map (Value.int .i64)) :=
  World.ownsRow_lit w #[] 0 hB (by unfold maxLen; omega) rfl

/-- The first k numbers and 32, divided by 64 (down). -/
def downTo (g : Nat → Int) (k i : Nat) : Int := if i < k then (g i + 32) / 64 else g i
theorem downTo_set (g : Nat → Int) (n k : Nat) : ((listF n (downTo g k)).map (Value.int .i64)).set k (.int .i64 ((g k + 32) / 64)) = (listF n (downTo g (k + 1))).map (Value.int .i64) := by
  unfold listF
  rw [List.map_map, List.map_map]
  have e : Value.int .i64 ((g k + 32) / 64) = (Value.int .i64 ∘ downTo g (k + 1)) k := by simp [downTo]
  rw [e]
  refine int_range_set n k _ _ (fun i hi => ?_)
  simp only [Function.comp, downTo]
  by_cases h : i < k
  · rw [if_pos h, if_pos (by omega)]
  · rw [if_neg h, if_neg (by omega)]
theorem downTo_none (g : Nat → Int) (n : Nat) : listF n (downTo g 0) = listF n g := listF_congr fun i hi => by
  unfold downTo
  rw [if_neg (by omega)]
theorem downTo_full (g : Nat → Int) (n : Nat) : listF n (downTo g n) = listF n (fun i => (g i + 32) / 64) := listF_congr fun i hi => by
  unfold downTo
  rw [if_pos hi]
theorem downTo_at (g : Nat → Int) (k : Nat) : downTo g k k = g k := by
  unfold downTo
  rw [if_neg (by omega)]
theorem map_at {n k : Nat} (f : Nat → Int) (hk : k < n) : ((listF n f).map (Value.int .i64))[k]? = some (.int .i64 (f k)) := by simp [listF, hk]
end Go.Proofs.YtnlbigjfnjcldaaGreat

namespace Go.Proofs.YtnlbigjfnjcldaaGreat
open Go.RowKit
set_option linter.unusedVariables false

theorem owned_cap {w : World} {B n c s : Nat} {e : TypeId} {p : Option Addr} {xs : List Value} (h : w.ownsRow B e s (.slice p n c) n xs) : n ≤ c := by
  rcases h.2 with ⟨e, h0⟩ | ⟨g, cap, cur, e, hb, hg, hn, _⟩
  · cases e
    exact Nat.zero_le _
  · cases e
    exact hn
end Go.Proofs.YtnlbigjfnjcldaaGreat

namespace Go.Proofs.YtnlbigjfnjcldaaGreat
open Go.RowKit
set_option linter.unusedVariables false

def sqB (M : Int) (xs : List Int) : Bool := decide (xs.length = 64) && inB M xs
theorem sqB_iff {M : Int} {xs : List Int} : sqB M xs = true ↔ xs.length = 64 ∧ inB M xs = true := by unfold sqB; simp
theorem sqB_at {M : Int} {xs : List Int} (h : sqB M xs = true) : ∀ i, i < 64 → -M ≤ xs.getD i 0 ∧ xs.getD i 0 ≤ M := fun i hi => by
  obtain ⟨h1, h2⟩ := sqB_iff.1 h
  exact inB_iff.1 h2 i (by omega)
end Go.Proofs.YtnlbigjfnjcldaaGreat

namespace Go.Proofs.YtnlbigjfnjcldaaGreat
open Go.RowKit
set_option linter.unusedVariables false

/-- The first k are put. -/
def upF (f g : Nat → Int) (k i : Nat) : Int := if i < k then f i else g i
theorem upF_set (f g : Nat → Int) (n k : Nat) : ((listF n (upF f g k)).map (Value.int .i64)).set k (.int .i64 (f k)) = (listF n (upF f g (k + 1))).map (Value.int .i64) := by
  unfold listF
  rw [List.map_map, List.map_map]
  have e : Value.int .i64 (f k) = (Value.int .i64 ∘ upF f g (k + 1)) k := by
    simp only [Function.comp, upF]
    rw [if_pos (by omega)]
  rw [e]
  refine int_range_set n _ _ _ (fun i hi => ?_)
  simp only [Function.comp, upF]
  by_cases h : i < k
  · rw [if_pos h, if_pos (by omega)]
  · rw [if_neg h, if_neg (by omega)]
theorem upF_made (f : Nat → Int) (n : Nat) : (madeCells (Value.int .i64 0).cells (n * 1)).toList = (listF n (upF f (fun _ => 0) 0)).map (Value.int .i64) := by
  rw [int_made]
  unfold listF
  rw [List.map_map]
  apply List.map_congr_left
  intro i hi
  simp [upF]
theorem upF_none (f g : Nat → Int) (n : Nat) : listF n (upF f g 0) = listF n g := listF_congr fun i hi => by
  unfold upF
  rw [if_neg (by omega)]
theorem upF_full (f g : Nat → Int) (n : Nat) : listF n (upF f g n) = listF n f := listF_congr fun i hi => by
  unfold upF
  rw [if_pos hi]
theorem upF_at (f g : Nat → Int) (k : Nat) : upF f g k k = g k := by
  unfold upF
  rw [if_neg (by omega)]
theorem base_of_own {w : World} {B n s : Nat} {e : TypeId} {v : Value} {xs : List Value} (h : w.ownsRow B e s v n xs) : ∀ k, v.ownBlock = some k → B ≤ k := fun k hk => (h.lt k hk).1
theorem ints_there {w : World} {b o k : Nat} {xs : List Int} (h : Ints w (some ⟨b, o, none⟩) xs) (hk : k < xs.length) : w.cell? ⟨b, o + k, none⟩ = some (.int .i64 (xs.getD k 0)) := by
  rcases h with h0 | ⟨b', o', e, hg, hc⟩
  · rw [h0] at hk
    simp at hk
  · cases e
    exact hc k hk
/-- Numbers of a known row, to be appended to another. -/
theorem news_of_list {w : World} {b o : Nat} {xs : List Int} (h : Ints w (some ⟨b, o, none⟩) xs) : ∀ j u, (xs.map (Value.int .i64))[j]? = some u → w.cell? ((⟨b, o, none⟩ : Addr).add j) = some u := fun j u hu => by
  have hadd : (⟨b, o, none⟩ : Addr).add j = ⟨b, o + j, none⟩ := by unfold Addr.add; split <;> simp_all
  obtain ⟨hj, hv⟩ := List.getElem?_eq_some_iff.1 hu
  rw [List.length_map] at hj
  rw [hadd, ints_there h hj, ← hv, List.getD_eq_getElem?_getD, List.getElem?_eq_getElem hj]
  simp
theorem ones_of_list (xs : List Int) : ∀ u ∈ xs.map (Value.int .i64), u.oneCell' = true := fun u hu => by
  obtain ⟨x, _, rfl⟩ := List.mem_map.1 hu
  rfl
theorem listF_end (n : Nat) (f : Nat → Int) : (listF n f).map (Value.int .i64) ++ [.int .i64 (f n)] = (listF (n + 1) f).map (Value.int .i64) := by
  unfold listF
  rw [List.range_succ, List.map_append, List.map_append]
  rfl
end Go.Proofs.YtnlbigjfnjcldaaGreat

namespace Go.Proofs.YtnlbigjfnjcldaaGreat
open Go.RowKit
set_option linter.unusedVariables false

set_option maxHeartbeats 400000 in
theorem numberSquareOk_any (a : Option Addr) (cap : Nat) (xs : List Int) (M : Int) (w : World) (h : Ints w a xs) (hl : xs.length ≤ maxLen) (m0 : 0 ≤ M) (m1 : M ≤ 100000000) :
    Calls Tryz.prog 120 #[.slice a xs.length cap, .int .i64 M] w fun e w' => e = .returned (.bool (sqB M xs)) ∧ Below w.heap.size w w' := by
  have HC : Hid (Calls Tryz.prog 119 #[.slice a xs.length cap, .int .i64 M] w fun e w' => e = .returned (.bool (inB M xs)) ∧ Below w.heap.size w w') := implAll a cap xs M w h hl m0 m1
  unfold maxLen at hl
  clear h
  by_cases h8 : xs.length = 64
  · have HE : Hid (sqB M xs = inB M xs) := by show _ = _; unfold sqB; rw [h8]; rfl
    rw [h8] at HC ⊢
    generalize inB M xs = D at *
    clear h8 hl
    go_enter Tryz.func120, Tryz.ntmps120
    go_wp2_with (go_at_call 119; refine HC.out.mono ?_; rintro e w1 ⟨rfl, hb⟩)
    go_ret
    exact ⟨by rw [HE.out]; rfl, hb⟩
  · have HE : Hid (sqB M xs = false) := by show _ = _; unfold sqB; rw [show decide (xs.length = 64) = false by simpa using h8]; rfl
    have q1 : ((xs.length : Int) == 64) = false := by rw [beq_eq_false_iff_ne]; omega
    have q2 : (xs.length == 64) = false := by rw [beq_eq_false_iff_ne]; omega
    have q5 : ¬ (xs.length : Int) = 64 := by omega
    have q7 : ((xs.length : Int) != 64) = true := by simpa using q5
    clear HC
    go_enter Tryz.func120, Tryz.ntmps120
    go_wp2
    go_ret
    exact ⟨by rw [HE.out]; rfl, Below.refl _ _⟩

end Go.Proofs.YtnlbigjfnjcldaaGreat

namespace Go.Proofs.YtnlbigjfnjcldaaGreat
open Go.RowKit
set_option linter.unusedVariables false

/-- n numbers from k on. -/
def marksI (k : Int) (n : Nat) : List Int := (List.range n).map (fun i : Nat => k + (i : Int))
theorem marksI_length (k : Int) (n : Nat) : (marksI k n).length = n := by simp [marksI]
theorem marksI_getD (k : Int) (n i : Nat) (h : i < n) : (marksI k n).getD i 0 = k + (i : Int) := by
  simp [marksI, List.getD_eq_getElem?_getD, h]
def mkUp (xs : List Int) (k : Int) (j i : Nat) : Int := if i < j then k + (i : Int) else xs.getD i 0
theorem mkUp_zero (xs : List Int) (k : Int) : (List.range xs.length).map (mkUp xs k 0) = xs := by
  apply List.ext_getElem
  · simp
  · intro i h1 h2; simp [mkUp, h2]
theorem mkUp_full (xs : List Int) (k : Int) (n : Nat) : (List.range n).map (mkUp xs k n) = marksI k n := by
  unfold marksI; apply List.map_congr_left; intro i hi; simp [mkUp, List.mem_range.1 hi]
theorem mkUp_set (xs : List Int) (k : Int) (n j : Nat) : (((List.range n).map (mkUp xs k j)).map (Value.int .i64)).set j (.int .i64 (k + (j : Int))) = ((List.range n).map (mkUp xs k (j + 1))).map (Value.int .i64) := by
  rw [List.map_map, List.map_map]
  have e : Value.int .i64 (k + (j : Int)) = (Value.int .i64 ∘ mkUp xs k (j + 1)) j := by simp [mkUp]
  rw [e]
  refine int_range_set n j _ _ (fun i hi => ?_)
  simp only [Function.comp, mkUp]
  by_cases h : i < j
  · simp [h, Nat.lt_succ_of_lt h]
  · simp [h, show ¬ i < j + 1 by omega]

set_option maxHeartbeats 800000 in
theorem markIntS_any (a : Option Addr) (c B : Nat) (xs : List Int) (k : Int) (w : World) (ho : w.ownsRow B 3 1 (.slice a xs.length c) xs.length (xs.map (Value.int .i64))) (hn : xs.length ≤ 2000000) (hk0 : 0 ≤ k) (hk1 : k ≤ 3000000) :
    Calls Tryz.prog 45 #[.slice a xs.length c, .int .i64 k] w fun e w' => e = .returned (.int .i64 (k + (xs.length : Int))) ∧ w'.ownsRow B 3 1 (.slice a xs.length c) xs.length ((marksI k xs.length).map (Value.int .i64)) ∧ w.grownBy w' (Value.slice a xs.length c).ownBlock := by
  rcases Nat.eq_zero_or_pos xs.length with h0 | hpos
  · have hx : xs = [] := List.eq_nil_of_length_eq_zero h0
    subst hx
    have HO : Hid (World.ownsRow _ _ _ _ _ _ _) := ho
    clear ho
    go_enter Tryz.func45, Tryz.ntmps45
    go_wp2
    refine wp_loop_rounds 1 ?_
    rw [rounds_succ]
    go_wp2
    go_ret
    exact ⟨by simp, HO.out, World.grownBy.refl _ _⟩
  · obtain ⟨g, cp, hv, _⟩ := ho.form hpos
    cases hv
    have ho0 : w.ownsRow B 3 1 (.slice (some ⟨g, 0, none⟩) xs.length c) xs.length (((List.range xs.length).map (mkUp xs k 0)).map (Value.int .i64)) := by rw [mkUp_zero]; exact ho
    clear ho hpos
    obtain ⟨n, HN⟩ : ∃ n, Hid (n = xs.length) := ⟨_, rfl⟩
    rw [← HN.out] at ho0 hn ⊢
    have hn' : (n : Int) ≤ 2000000 := by omega
    go_enter Tryz.func45, Tryz.ntmps45
    go_wp2
    go_loopw [1, 5] (fun v i wr => ∃ j : Nat, j ≤ n ∧ i = .int .i64 j ∧ v = .int .i64 (k + (j : Int)) ∧ wr.ownsRow B 3 1 (.slice (some ⟨g, 0, none⟩) n c) n (((List.range n).map (mkUp xs k j)).map (Value.int .i64)) ∧ w.grownBy wr (some g))
      (fun _ i _ => n - (intOf i).toNat)
    case atStart => exact ⟨0, Nat.zero_le _, rfl, by simp, ho0, World.grownBy.refl _ _⟩
    case round =>
      obtain ⟨j, hj, rfl, rfl, hown, hgr⟩ := hrel
      clear ho0
      by_cases hlt : j < n
      · have hq0 : (0 : Int) ≤ (j : Int) := by omega
        have hq : (j : Int) < (n : Int) := by omega
        have hcc := hown.cellAt j (by omega)
        have hfz := hown.frozenAt j
        have hc' : wr.cell? ⟨g, j, none⟩ = some (.int .i64 (mkUp xs k j j)) := by rw [hcc]; simp [hlt]
        have hst := hown.stored j (.int .i64 (k + (j : Int)))
        have hos := hst.1
        have hgr2 := hgr.trans hst.2
        rw [mkUp_set] at hos
        clear hcc hst hown hgr
        go_wp2
        go_roundw
        case rel => exact ⟨j + 1, by omega, by go_num, by go_num, hos, hgr2⟩
        case measure => simp [intOf]; omega
      · obtain rfl : j = n := by omega
        rw [mkUp_full] at hown
        go_wp2
        go_ret
        exact ⟨rfl, hown, hgr⟩

set_option maxHeartbeats 800000 in
theorem heldIntS_any (a : Option Addr) (n c : Nat) (k : Int) (w : World) (hi : Ints w a (marksI k n)) (hn : n ≤ 2000000) (hk0 : 0 ≤ k) (hk1 : k ≤ 1000000) :
    Calls Tryz.prog 46 #[.slice a n c, .int .i64 k] w fun e w' => e = .returned (.int .i64 (k + (n : Int))) ∧ w' = w := by
  have HI : Hid (Ints w a (marksI k n)) := hi
  have hn' : (n : Int) ≤ 2000000 := by omega
  clear hi
  go_enter Tryz.func46, Tryz.ntmps46
  go_wp2
  go_loopw [1, 5] (fun v i wr => ∃ j : Nat, j ≤ n ∧ i = .int .i64 j ∧ v = .int .i64 (k + (j : Int)) ∧ wr = w)
    (fun _ i _ => n - (intOf i).toNat)
  case atStart => exact ⟨0, Nat.zero_le _, rfl, by simp, rfl⟩
  case round =>
    obtain ⟨j, hj, rfl, rfl, rfl⟩ := hrel
    by_cases hlt : j < n
    · rcases HI.out with h | ⟨b, off, rfl, hg, hc⟩
      · have := marksI_length k n; rw [h] at this; simp at this; omega
      have d1 : wr.cell? ⟨b, off + j, none⟩ = some (.int .i64 (k + (j : Int))) := by rw [hc j (by rw [marksI_length]; exact hlt), marksI_getD k n j hlt]
      clear hc
      have hq0 : (0 : Int) ≤ (j : Int) := by omega
      have hq : (j : Int) < (n : Int) := by omega
      go_wp2
      go_roundw
      case rel => exact ⟨j + 1, by omega, by go_num, by go_num, trivial⟩
      case measure => simp [intOf]; omega
    · obtain rfl : j = n := by omega
      go_wp2
      go_ret
      exact ⟨rfl, rfl⟩

end Go.Proofs.YtnlbigjfnjcldaaGreat

namespace Go.Proofs.YtnlbigjfnjcldaaGreat
open Go.RowKit
set_option linter.unusedVariables false

def sqOkB (kd md dx dy : Int) (xs : List Int) : Bool :=
  if kd = 0 then decide (md = 0) && decide (dx = 0) && decide (dy = 0) && decide (xs.length = 0)
  else if kd = 1 then decide (md = 0) && (decide (-16 ≤ dx) && decide (dx ≤ 16)) && (decide (-16 ≤ dy) && decide (dy ≤ 16)) && sqB 5000 xs
  else if kd = 2 then (decide (0 ≤ md) && decide (md ≤ 3)) && decide (dx = 0) && decide (dy = 0) && sqB 5000 xs
  else false
theorem sqOk_cases {kd md dx dy : Int} {xs : List Int} (h : sqOkB kd md dx dy xs = true) :
    (kd = 0 ∧ md = 0 ∧ dx = 0 ∧ dy = 0 ∧ xs = []) ∨ (kd = 1 ∧ md = 0 ∧ (-16 ≤ dx ∧ dx ≤ 16) ∧ (-16 ≤ dy ∧ dy ≤ 16) ∧ sqB 5000 xs = true) ∨ (kd = 2 ∧ (0 ≤ md ∧ md ≤ 3) ∧ dx = 0 ∧ dy = 0 ∧ sqB 5000 xs = true) := by
  unfold sqOkB at h
  by_cases h0 : kd = 0
  · rw [if_pos h0] at h
    simp only [Bool.and_eq_true, decide_eq_true_eq] at h
    exact .inl ⟨h0, h.1.1.1, h.1.1.2, h.1.2, List.eq_nil_of_length_eq_zero h.2⟩
  · rw [if_neg h0] at h
    by_cases h1 : kd = 1
    · rw [if_pos h1] at h
      simp only [Bool.and_eq_true, decide_eq_true_eq] at h
      exact .inr (.inl ⟨h1, h.1.1.1, h.1.1.2, h.1.2, h.2⟩)
    · rw [if_neg h1] at h
      by_cases h2 : kd = 2
      · rw [if_pos h2] at h
        simp only [Bool.and_eq_true, decide_eq_true_eq] at h
        exact .inr (.inr ⟨h2, h.1.1.1, h.1.1.2, h.1.2, h.2⟩)
      · rw [if_neg h2] at h
        cases h
end Go.Proofs.YtnlbigjfnjcldaaGreat
