/-
  The walks of spec.l09Flip, l09Rows, l09Backs and l09Down.
  The walks of impl.Four, impl.FourBack, spec.Four and spec.FourBack.
  What turns of four say of sums, as facts of numbers and of lists.
-/
import Derived.Test.YtlejfkjanllgbaaDoorFourA
import Derived.Test.YtlejfkjanllgbaaDoorIntAll
import Derived.Deep.AppendLies
import Derived.Test.YtlejfkjanllgbaaDoorFourTop
import Derived.Test.YtlejfkjanllgbaaDoorFourList
import Derived.Test.YtlejfkjanllgbaaDoorFourOf
import Derived.Test.YtlejfkjanllgbaaDoorSignMath
namespace Go.Proofs.YtlejfkjanllgbaaDoor
open Go.RowKit
set_option linter.unusedVariables false
set_option maxRecDepth 20000

theorem ints_at {w : World} {a : Option Addr} {n : Nat} {f : Nat → Int} (h : Ints w a (listF n f)) (hn : 0 < n) : ∃ b off : Nat, a = some ⟨b, off, none⟩ ∧ b < w.heap.size ∧ ∀ k, k < n → w.cell? ⟨b, off + k, none⟩ = some (.int .i64 (f k)) := by
  rcases h with h | ⟨b, off, ha, hb, hc⟩
  · have := congrArg List.length h
    rw [listF_length] at this
    simp at this
    omega
  · refine ⟨b, off, ha, hb, fun k hk => ?_⟩
    have := hc k (by rw [listF_length]; exact hk)
    rwa [listF_get f hk] at this
theorem ints_cells {w : World} {a : Option Addr} {n : Nat} {f : Nat → Int} (h : Ints w a (listF n f)) (hn : 0 < n) : ∃ b off : Nat, a = some ⟨b, off, none⟩ ∧ Hid (∀ w', Below w.heap.size w w' → ∀ k, k < n → w'.cell? ⟨b, off + k, none⟩ = some (.int .i64 (f k))) := by
  obtain ⟨b, off, ha, hb, hc⟩ := ints_at h hn
  exact ⟨b, off, ha, fun w' hw k hk => (hw.cell (p := ⟨b, off + k, none⟩) hb).trans (hc k hk)⟩

theorem own_base {w : World} {B n s : Nat} {e : TypeId} {v : Value} {xs : List Value} (h : w.ownsRow B e s v n xs) : ∀ k, v.ownBlock = some k → B ≤ k := fun k hk => by
  rcases h.2 with ⟨rfl, _⟩ | ⟨g, cap, cur, rfl, hb, _⟩
  · simp [Value.ownBlock] at hk
  · simp [Value.ownBlock] at hk
    omega
set_option maxHeartbeats 400000 in
theorem specDown (n m : Int) (w : World) (h0 : -10000000000 ≤ n) (h1 : n ≤ 10000000000) (hm : m = 2 ∨ m = 64) : Calls Tryd.prog 69 #[.int .i64 n, .int .i64 m] w fun e w' => e = .returned (.int .i64 (n / m)) ∧ w' = w := by
  obtain ⟨q, hq⟩ : ∃ q, Int.tdiv n m = q := ⟨_, rfl⟩
  obtain ⟨r, hr⟩ : ∃ r, Int.tmod n m = r := ⟨_, rfl⟩
  have hd := Int.tmod_add_mul_tdiv n m
  have hr0 := Int.tmod_lt_of_pos n (b := m) (by omega)
  have hr1 := Int.lt_tmod_of_pos n (b := m) (by omega)
  rw [hq, hr] at hd
  rw [hr] at hr0 hr1
  have hm0 : ¬ m = 0 := by rcases hm with rfl | rfl <;> decide
  by_cases hneg : r < 0
  · have HV : Hid (n / m = q - 1) := by
      show _ = _
      rcases hm with rfl | rfl <;> omega
    have hqb : -10000000000 ≤ q ∧ q ≤ 10000000000 := by
      rcases hm with rfl | rfl <;> omega
    have hw : IntKind.i64.wrap q = q := IntWalk.i64_in _ ⟨by omega, by omega⟩
    have hw' : wrap64 q = q := IntWalk.wrap64_in _ ⟨by omega, by omega⟩
    rcases hm with rfl | rfl
    all_goals
      clear hd hr0 hr1
      go_enter Tryd.func69, Tryd.ntmps69
      go_wp2
      go_ret
      exact ⟨by rw [HV.out]; rfl, rfl⟩
  · have HV : Hid (n / m = q) := by
      show _ = _
      rcases hm with rfl | rfl <;> omega
    have hqb : -10000000000 ≤ q ∧ q ≤ 10000000000 := by
      rcases hm with rfl | rfl <;> omega
    have hw : IntKind.i64.wrap q = q := IntWalk.i64_in _ ⟨by omega, by omega⟩
    have hw' : wrap64 q = q := IntWalk.wrap64_in _ ⟨by omega, by omega⟩
    rcases hm with rfl | rfl
    all_goals
      clear hd hr0 hr1
      go_enter Tryd.func69, Tryd.ntmps69
      go_wp2
      go_ret
      exact ⟨by rw [HV.out]; rfl, rfl⟩

/-- The first k numbers are put where they go. -/
def putTo (f : Nat → Int) (k i : Nat) : Int := if i < 16 ∧ i % 4 * 4 + i / 4 < k then flipF f i else 0
theorem putTo_set (f : Nat → Int) (k : Nat) (hk : k < 16) : ((listF 16 (putTo f k)).map (Value.int .i64)).set (k % 4 * 4 + k / 4) (.int .i64 (f k)) = (listF 16 (putTo f (k + 1))).map (Value.int .i64) := by
  unfold listF
  rw [List.map_map, List.map_map]
  have e : Value.int .i64 (f k) = (Value.int .i64 ∘ putTo f (k + 1)) (k % 4 * 4 + k / 4) := by
    simp only [Function.comp, putTo, flipF]
    rw [if_pos (by omega), show (k % 4 * 4 + k / 4) % 4 * 4 + (k % 4 * 4 + k / 4) / 4 = k by omega]
  rw [e]
  refine int_range_set 16 _ _ _ (fun i hi => ?_)
  simp only [Function.comp, putTo]
  by_cases h : i < 16 ∧ i % 4 * 4 + i / 4 < k
  · rw [if_pos h, if_pos (by omega)]
  · rw [if_neg h, if_neg (by omega)]
theorem putTo_none (f : Nat → Int) : (madeCells (Value.int .i64 0).cells (16 * 1)).toList = (listF 16 (putTo f 0)).map (Value.int .i64) := by
  rw [int_made]
  unfold listF
  rw [List.map_map]
  apply List.map_congr_left
  intro i hi
  simp [putTo]
theorem putTo_full (f : Nat → Int) : listF 16 (putTo f 16) = listF 16 (flipF f) := listF_congr fun i hi => by
  unfold putTo
  rw [if_pos ⟨hi, by omega⟩]

set_option maxHeartbeats 800000 in
theorem specFlip (f : Nat → Int) (a : Option Addr) (cap : Nat) (w : World) (h : Ints w a (listF 16 f)) :
    Calls Tryd.prog 66 #[.slice a 16 cap] w fun e w' => (∃ v, e = .returned v ∧ w'.ownsRow w.heap.size 3 1 v 16 ((listF 16 (flipF f)).map (Value.int .i64))) ∧ Below w.heap.size w w' := by
  obtain ⟨i0, hi0, hz0, hz1, hz2⟩ := info_parts infoI
  obtain ⟨b, off, ha, HI⟩ := ints_cells h (by omega)
  subst ha
  clear h
  go_enter Tryd.func66, Tryd.ntmps66
  go_wp2_with (at_make; refine wpList_make_full _ (by rfl) _ _ 24 (by rfl) w.heap.size 3 i0 (.int .i64 0) 1 Tryd.underlying24 hi0 hz0 hz1 .i64 .i64 _ _ 16 (by rfl) (by rfl) (by rfl) (by rfl) (by rw [hz2]; omega) (by unfold maxLen; omega) (Nat.le_refl _) ?_; intro w1 hown0 hgrow0)
  have hb0 : Below w.heap.size w w1 := (Below.refl _ _).grown hgrow0 (Nat.le_refl _) (fun j hj => by cases hj)
  rw [putTo_none f] at hown0
  clear hgrow0
  go_loopw [4] (fun i wr => ∃ k : Nat, k ≤ 16 ∧ i = .int .i64 (k : Int) ∧ wr.ownsRow w.heap.size 3 1 (.slice (some ⟨w.heap.size, 0, none⟩) 16 16) 16 ((listF 16 (putTo f k)).map (Value.int .i64)) ∧ Below w.heap.size w wr) (fun i _ => 16 - (intOf i).toNat)
  case atStart => exact ⟨0, by omega, rfl, hown0, hb0⟩
  case round =>
    obtain ⟨k, hk, rfl, hown, hb⟩ := hrel
    clear hown0 hb0
    by_cases hlt : k < 16
    · have l0 : (0 : Int) ≤ (k : Int) := by omega
      have l1 : (k : Int) < 16 := by omega
      have d1 := HI.out wr hb k hlt
      have hcc := hown.cellAt (k % 4 * 4 + k / 4) (by omega)
      have hfz := hown.frozenAt (k % 4 * 4 + k / 4)
      have hc' : wr.cell? ⟨w.heap.size, k % 4 * 4 + k / 4, none⟩ = some (.int .i64 (putTo f k (k % 4 * 4 + k / 4))) := by
        rw [hcc]
        simp [listF, show k % 4 * 4 + k / 4 < 16 by omega]
      have hst := hown.stored (k % 4 * 4 + k / 4) (.int .i64 (f k))
      have hbs := hb.grown hst.2 hb.size (fun j hj => by cases hj; exact Nat.le_refl _)
      have hos := hst.1
      rw [putTo_set f k hlt] at hos
      generalize f k = x at *
      clear hcc hst hown
      go_wp2
      go_roundw
      case rel => exact ⟨k + 1, by omega, by go_num, hos, hbs⟩
      case measure => simp [intOf]; omega
    · obtain rfl : k = 16 := by omega
      rw [putTo_full] at hown
      go_wp2
      go_ret
      exact ⟨⟨_, rfl, hown⟩, hb⟩

set_option maxHeartbeats 1600000 in
theorem specRows (f : Nat → Int) (a : Option Addr) (cap : Nat) (w : World) (h : Ints w a (listF 16 f)) (hf : In 100000000 16 f) :
    Calls Tryd.prog 67 #[.slice a 16 cap] w fun e w' => (∃ v, e = .returned v ∧ w'.ownsRow w.heap.size 3 1 v 16 ((listF 16 (rowsF sumR f)).map (Value.int .i64))) ∧ Below w.heap.size w w' := by
  obtain ⟨i0, hi0, hz0, hz1, hz2⟩ := info_parts infoI
  obtain ⟨b, off, ha, HI⟩ := ints_cells h (by omega)
  subst ha
  clear h
  go_enter Tryd.func67, Tryd.ntmps67
  go_wp2_with fail
  go_loopw [3, 4] (fun v i wr => ∃ k : Nat, k ≤ 4 ∧ i = .int .i64 (k : Int) ∧ wr.ownsRow w.heap.size 3 1 v (4 * k) ((listF (4 * k) (rowsF sumR f)).map (Value.int .i64)) ∧ Below w.heap.size w wr) (fun _ i _ => 4 - (intOf i).toNat)
  case atStart => exact ⟨0, by omega, rfl, World.ownsRow_made w #[] 0 (Nat.le_refl _) (by unfold maxLen; omega) rfl, (Below.refl _ _).alloc (Nat.le_refl _) _⟩
  case round =>
    obtain ⟨k, hk, rfl, hown, hb⟩ := hrel
    by_cases hlt : k < 4
    · have l0 : (0 : Int) ≤ (k : Int) := by omega
      have l1 : (k : Int) < 4 := by omega
      have d0 := HI.out wr hb (4 * k) (by omega)
      have d1 := HI.out wr hb (4 * k + 1) (by omega)
      have d2 := HI.out wr hb (4 * k + 2) (by omega)
      have d3 := HI.out wr hb (4 * k + 3) (by omega)
      obtain ⟨a0, a1⟩ := hf (4 * k) (by omega)
      obtain ⟨b0, b1⟩ := hf (4 * k + 1) (by omega)
      obtain ⟨c0, c1⟩ := hf (4 * k + 2) (by omega)
      obtain ⟨e0, e1⟩ := hf (4 * k + 3) (by omega)
      have HL : Hid ((listF (4 * k) (rowsF sumR f)).map (Value.int .i64) ++ (listF 4 (fun j => sumR j (f (4 * k)) (f (4 * k + 1)) (f (4 * k + 2)) (f (4 * k + 3)))).map (Value.int .i64) = (listF (4 * (k + 1)) (rowsF sumR f)).map (Value.int .i64)) := by
        show _ = _
        rw [← List.map_append, show listF 4 (fun j => sumR j (f (4 * k)) (f (4 * k + 1)) (f (4 * k + 2)) (f (4 * k + 3))) = listF 4 (fun j => rowsF sumR f (4 * k + j)) from listF_congr fun i hi => (rowsF_at _ _ _ _ hi).symm, listF_append]
        rfl
      generalize f (4 * k) = x0 at *
      generalize f (4 * k + 1) = x1 at *
      generalize f (4 * k + 2) = x2 at *
      generalize f (4 * k + 3) = x3 at *
      go_wp2_with (at_builtin; refine wpList_append_lies _ (by rfl) _ _ 24 (by rfl) w.heap.size 3 i0 (.int .i64 0) 1 8 Tryd.underlying24 hi0 hz0 hz1 hz2 rfl (by omega) u3 (4 * k) _ (by rfl) (hown.alloc _) ⟨wr.heap.size, 0, none⟩ 4 4 ((listF 4 (fun j => sumR j x0 x1 x2 x3)).map (Value.int .i64)) (by rfl) (by rfl) (World.news_of_block (cs := #[.int .i64 (sumR 0 x0 x1 x2 x3), .int .i64 (sumR 1 x0 x1 x2 x3), .int .i64 (sumR 2 x0 x1 x2 x3), .int .i64 (sumR 3 x0 x1 x2 x3)]) (t := 3) (fr := (0, 0)) (heap_alloc_new wr _)) (ints_oneCell .i64 _) (by omega) (by unfold maxLen; omega) (by omega) (by have := hb.size; simp; omega) (wr.heap.size + 1) (by simp) ?_; intro gg cp w4 hown2 hgrow hat hlt2)
      rw [HL.out] at hown2
      refine ⟨⟨k + 1, by omega, by go_num, hown2, (hb.alloc hb.size _).grown hgrow (by have := hb.size; simp; omega) (own_base hown)⟩, ?_⟩
      simp [intOf]; omega
    · obtain rfl : k = 4 := by omega
      go_wp2
      go_ret
      exact ⟨⟨_, rfl, hown⟩, hb⟩
set_option maxHeartbeats 1600000 in
theorem specBacks (f : Nat → Int) (a : Option Addr) (cap : Nat) (w : World) (h : Ints w a (listF 16 f)) (hf : In 100000000 16 f) :
    Calls Tryd.prog 71 #[.slice a 16 cap] w fun e w' => (∃ v, e = .returned v ∧ w'.ownsRow w.heap.size 3 1 v 16 ((listF 16 (rowsF bakR f)).map (Value.int .i64))) ∧ Below w.heap.size w w' := by
  obtain ⟨i0, hi0, hz0, hz1, hz2⟩ := info_parts infoI
  obtain ⟨b, off, ha, HI⟩ := ints_cells h (by omega)
  subst ha
  clear h
  go_enter Tryd.func71, Tryd.ntmps71
  go_wp2_with fail
  go_loopw [3, 4] (fun v i wr => ∃ k : Nat, k ≤ 4 ∧ i = .int .i64 (k : Int) ∧ wr.ownsRow w.heap.size 3 1 v (4 * k) ((listF (4 * k) (rowsF bakR f)).map (Value.int .i64)) ∧ Below w.heap.size w wr) (fun _ i _ => 4 - (intOf i).toNat)
  case atStart => exact ⟨0, by omega, rfl, World.ownsRow_made w #[] 0 (Nat.le_refl _) (by unfold maxLen; omega) rfl, (Below.refl _ _).alloc (Nat.le_refl _) _⟩
  case round =>
    obtain ⟨k, hk, rfl, hown, hb⟩ := hrel
    by_cases hlt : k < 4
    · have l0 : (0 : Int) ≤ (k : Int) := by omega
      have l1 : (k : Int) < 4 := by omega
      have d0 := HI.out wr hb (4 * k) (by omega)
      have d1 := HI.out wr hb (4 * k + 1) (by omega)
      have d2 := HI.out wr hb (4 * k + 2) (by omega)
      have d3 := HI.out wr hb (4 * k + 3) (by omega)
      obtain ⟨a0, a1⟩ := hf (4 * k) (by omega)
      obtain ⟨b0, b1⟩ := hf (4 * k + 1) (by omega)
      obtain ⟨c0, c1⟩ := hf (4 * k + 2) (by omega)
      obtain ⟨e0, e1⟩ := hf (4 * k + 3) (by omega)
      have HL : Hid ((listF (4 * k) (rowsF bakR f)).map (Value.int .i64) ++ (listF 4 (fun j => bakR j (f (4 * k)) (f (4 * k + 1)) (f (4 * k + 2)) (f (4 * k + 3)))).map (Value.int .i64) = (listF (4 * (k + 1)) (rowsF bakR f)).map (Value.int .i64)) := by
        show _ = _
        rw [← List.map_append, show listF 4 (fun j => bakR j (f (4 * k)) (f (4 * k + 1)) (f (4 * k + 2)) (f (4 * k + 3))) = listF 4 (fun j => rowsF bakR f (4 * k + j)) from listF_congr fun i hi => (rowsF_at _ _ _ _ hi).symm, listF_append]
        rfl
      generalize f (4 * k) = x0 at *
      generalize f (4 * k + 1) = x1 at *
      generalize f (4 * k + 2) = x2 at *
      generalize f (4 * k + 3) = x3 at *
      go_wp2_with (first | (go_at_call 69; refine (specDown _ 2 _ (by omega) (by omega) (.inl rfl)).mono ?_; rintro e w1 ⟨rfl, hw⟩; subst w1) | (at_builtin; refine wpList_append_lies _ (by rfl) _ _ 24 (by rfl) w.heap.size 3 i0 (.int .i64 0) 1 8 Tryd.underlying24 hi0 hz0 hz1 hz2 rfl (by omega) u3 (4 * k) _ (by rfl) (hown.alloc _) ⟨wr.heap.size, 0, none⟩ 4 4 ((listF 4 (fun j => bakR j x0 x1 x2 x3)).map (Value.int .i64)) (by rfl) (by rfl) (World.news_of_block (cs := #[.int .i64 (bakR 0 x0 x1 x2 x3), .int .i64 (bakR 1 x0 x1 x2 x3), .int .i64 (bakR 2 x0 x1 x2 x3), .int .i64 (bakR 3 x0 x1 x2 x3)]) (t := 3) (fr := (0, 0)) (heap_alloc_new wr _)) (ints_oneCell .i64 _) (by omega) (by unfold maxLen; omega) (by omega) (by have := hb.size; simp; omega) (wr.heap.size + 1) (by simp) ?_; intro gg cp w4 hown2 hgrow hat hlt2))
      rw [HL.out] at hown2
      refine ⟨⟨k + 1, by omega, by go_num, hown2, (hb.alloc hb.size _).grown hgrow (by have := hb.size; simp; omega) (own_base hown)⟩, ?_⟩
      simp [intOf]; omega
    · obtain rfl : k = 4 := by omega
      go_wp2
      go_ret
      exact ⟨⟨_, rfl, hown⟩, hb⟩
end Go.Proofs.YtlejfkjanllgbaaDoor

namespace Go.Proofs.YtlejfkjanllgbaaDoor
open Go.RowKit
set_option linter.unusedVariables false

/-- Turns of four of a list of numbers; nothing of any other list. -/
def fourL (xs : List Int) : List Int := if (decide (xs.length = 16) && inB 1000 xs) = true then listF 16 (turnF sumR (fun i => xs.getD i 0)) else []
def back4L (xs : List Int) : List Int := if (decide (xs.length = 16) && inB 10000000 xs) = true then listF 16 (fun i => (turnF bakR (fun i => xs.getD i 0) i + 32) / 64) else []

theorem fourL_le (xs : List Int) : (fourL xs).length ≤ 64 := by
  unfold fourL
  split
  · rw [listF_length]; omega
  · simp
theorem back4L_le (xs : List Int) : (back4L xs).length ≤ 64 := by
  unfold back4L
  split
  · rw [listF_length]; omega
  · simp
theorem in_of {M : Int} {n : Nat} {xs : List Int} (hl : xs.length = n) (h : inB M xs = true) : In M n (fun i => xs.getD i 0) := fun i hi => inB_iff.1 h i (by omega)

set_option maxHeartbeats 1600000 in
theorem implFour (a : Option Addr) (cap : Nat) (xs : List Int) (w : World) (h : Ints w a xs) (hl : xs.length ≤ maxLen) :
    Calls Tryd.prog 76 #[.slice a xs.length cap] w fun e w' => (∃ v, e = .returned v ∧ w'.ownsRow w.heap.size 3 1 v (fourL xs).length ((fourL xs).map (Value.int .i64))) ∧ Below w.heap.size w w' := by
  cases hb : (decide (xs.length = 16) && inB 1000 xs) with
  | true =>
    obtain ⟨hn, hin⟩ : xs.length = 16 ∧ inB 1000 xs = true := by simpa using hb
    have HL : Hid (fourL xs = listF 16 (turnF sumR (fun i => xs.getD i 0))) := by unfold fourL; exact if_pos hb
    have hI := in_of hn hin
    have HC := fourOf_yes a cap xs 1000 w h hl (by omega) (by omega) hn hin
    rw [hn] at HC ⊢
    obtain ⟨ρ, hρ⟩ : ∃ ρ : Nat → Int, (fun i => xs.getD i 0) = ρ := ⟨_, rfl⟩
    rw [hρ] at HL HC hI
    have HC' : Hid (Calls Tryd.prog 98 #[.slice a 16 cap, .int .i64 1000] w _) := HC
    have HT : Hid (∀ w', Calls Tryd.prog 99 #[.agg (arr 16 ρ), .func (Fn.func 100) #[] #[]] w' (fun e w'' => e = .returned (.agg (arr 16 (turnF sumR ρ))) ∧ Below w'.heap.size w' w'')) := fun w' => sums_turned ρ w' (fun i hi => by have := hI i hi; omega)
    clear hb hn hin h hl HC hI hρ
    go_enter Tryd.func76, Tryd.ntmps76
    go_wp2_with (first
      | (go_at_call 98; refine HC'.out.mono ?_; rintro e w1 ⟨rfl, hc1⟩)
      | ((with_reducible refine at_store ?_); generalize hV : World.alloc w1 _ = V; have b0 : Blk V w1.heap.size (arr 16 (fun _ => 0)) 89 := (by rw [← hV]; exact Blk.new w1 _ _); have hb := (show Below w.heap.size w V by rw [← hV]; exact hc1.alloc hc1.size _); have hb1 := (show Below w1.heap.size w1 V by rw [← hV]; exact (Below.refl _ _).alloc (Nat.le_refl _) _); clear hV; refine store_arr rfl _ _ _ rfl w1.heap.size 0 rfl 16 ρ rfl (there_of_arr b0 0 16 (by omega)) size44 ?_; have b2 : Blk (V.setCells w1.heap.size 0 (arr 16 ρ).toList) w1.heap.size (arr 16 ρ) 89 := (arr_store (k := ρ) b0 0 16 (by omega) (fun i hi => by rw [Nat.zero_add]) (fun i hi h => by omega)); have hb2 := below_setCells (g := w1.heap.size) hc1.size (arr 16 ρ).toList 0 V hb; clear b0 hb hb1; generalize World.setCells V w1.heap.size 0 (arr 16 ρ).toList = Z at *)
      | ((with_reducible refine at_load ?_); refine load_arr rfl _ _ rfl w1.heap.size 0 rfl 16 ρ (range_all b2) Tryd.underlying89 rfl size44 ?_; simp only [Act.put, List.setIfInBounds_toArray, List.set_cons_zero, List.set_cons_succ])
      | (go_at_call 99; refine (HT.out _).mono ?_; rintro e w2 ⟨rfl, hc2⟩)
      | (go_at_call 101; refine (fourList _ _).mono ?_; rintro e w3 ⟨⟨v, rfl, hv⟩, hc3⟩))
    go_ret
    rw [HL.out, listF_length]
    have h2 := hb2.trans (hc2.mono hb2.size)
    exact ⟨⟨_, rfl, own_mono hv h2.size⟩, h2.trans (hc3.mono h2.size)⟩
  | false =>
    have HL : Hid (fourL xs = []) := by unfold fourL; exact if_neg (by rw [hb]; decide)
    have HC' : Hid (Calls Tryd.prog 98 #[.slice a xs.length cap, .int .i64 1000] w _) := fourOf_no a cap xs 1000 w h hl (by omega) (by omega) hb
    clear hb h hl
    go_enter Tryd.func76, Tryd.ntmps76
    go_wp2_with (first
      | (go_at_call 98; refine HC'.out.mono ?_; rintro e w1 ⟨⟨ρ, rfl⟩, hc1⟩)
      | ((with_reducible refine at_store ?_); generalize hV : World.alloc w1 _ = V; have b0 : Blk V w1.heap.size (arr 16 (fun _ => 0)) 89 := (by rw [← hV]; exact Blk.new w1 _ _); have hb := (show Below w.heap.size w V by rw [← hV]; exact hc1.alloc hc1.size _); clear hV; refine store_arr rfl _ _ _ rfl w1.heap.size 0 rfl 16 ρ rfl (there_of_arr b0 0 16 (by omega)) size44 ?_; have hb2 := below_setCells (g := w1.heap.size) hc1.size (arr 16 ρ).toList 0 V hb; clear b0 hb; generalize World.setCells V w1.heap.size 0 (arr 16 ρ).toList = Z at *))
    go_ret
    rw [HL.out]
    exact ⟨⟨_, rfl, own_none Z hb2.size⟩, hb2.alloc hb2.size _⟩
set_option maxHeartbeats 1600000 in
theorem implFourBack (a : Option Addr) (cap : Nat) (xs : List Int) (w : World) (h : Ints w a xs) (hl : xs.length ≤ maxLen) :
    Calls Tryd.prog 82 #[.slice a xs.length cap] w fun e w' => (∃ v, e = .returned v ∧ w'.ownsRow w.heap.size 3 1 v (back4L xs).length ((back4L xs).map (Value.int .i64))) ∧ Below w.heap.size w w' := by
  cases hb : (decide (xs.length = 16) && inB 10000000 xs) with
  | true =>
    obtain ⟨hn, hin⟩ : xs.length = 16 ∧ inB 10000000 xs = true := by simpa using hb
    have HL : Hid (back4L xs = listF 16 (fun i => (turnF bakR (fun i => xs.getD i 0) i + 32) / 64)) := by unfold back4L; exact if_pos hb
    have hI := in_of hn hin
    have HC := fourOf_yes a cap xs 10000000 w h hl (by omega) (by omega) hn hin
    rw [hn] at HC ⊢
    obtain ⟨ρ, hρ⟩ : ∃ ρ : Nat → Int, (fun i => xs.getD i 0) = ρ := ⟨_, rfl⟩
    rw [hρ] at HL HC hI
    have HC' : Hid (Calls Tryd.prog 98 #[.slice a 16 cap, .int .i64 10000000] w _) := HC
    have HT : Hid (∀ w', Calls Tryd.prog 99 #[.agg (arr 16 ρ), .func (Fn.func 111) #[] #[]] w' (fun e w'' => e = .returned (.agg (arr 16 (turnF bakR ρ))) ∧ Below w'.heap.size w' w'')) := fun w' => baks_turned ρ w' (fun i hi => by have := hI i hi; omega)
    clear hb hn hin h hl HC hρ
    go_enter Tryd.func82, Tryd.ntmps82
    go_wp2_with (first
      | (go_at_call 98; refine HC'.out.mono ?_; rintro e w1 ⟨rfl, hc1⟩)
      | ((with_reducible refine at_store ?_); generalize hV : World.alloc w1 _ = V; have b0 : Blk V w1.heap.size (arr 16 (fun _ => 0)) 89 := (by rw [← hV]; exact Blk.new w1 _ _); have hb := (show Below w.heap.size w V by rw [← hV]; exact hc1.alloc hc1.size _); have hb1 := (show Below w1.heap.size w1 V by rw [← hV]; exact (Below.refl _ _).alloc (Nat.le_refl _) _); clear hV; refine store_arr rfl _ _ _ rfl w1.heap.size 0 rfl 16 ρ rfl (there_of_arr b0 0 16 (by omega)) size44 ?_; have b2 : Blk (V.setCells w1.heap.size 0 (arr 16 ρ).toList) w1.heap.size (arr 16 ρ) 89 := (arr_store (k := ρ) b0 0 16 (by omega) (fun i hi => by rw [Nat.zero_add]) (fun i hi h => by omega)); have hb2 := below_setCells (g := w1.heap.size) hc1.size (arr 16 ρ).toList 0 V hb; clear b0 hb hb1; generalize World.setCells V w1.heap.size 0 (arr 16 ρ).toList = Z at *)
      | ((with_reducible refine at_load ?_); refine load_arr rfl _ _ rfl w1.heap.size 0 rfl 16 ρ (range_all b2) Tryd.underlying89 rfl size44 ?_; simp only [Act.put, List.setIfInBounds_toArray, List.set_cons_zero, List.set_cons_succ])
      | (go_at_call 99; refine (HT.out _).mono ?_; rintro e w2 ⟨rfl, hc2⟩)
      | (go_at_call 101; refine (fourList _ _).mono ?_; rintro e w3 ⟨⟨v, rfl, hv⟩, hc3⟩; obtain ⟨gv, cv, rfl, hbv, hlv⟩ := hv.form (by omega)))
    have h2 := hb2.trans (hc2.mono hb2.size)
    have h3 := h2.trans (hc3.mono h2.size)
    have hv2 := own_mono hv h2.size
    clear hv hbv hlv hc2 hc3 b2 HT
    have HG : Hid (In 1000000000 16 (turnF bakR ρ)) := fun i hi => by have := (hI.back (by omega)) i hi; omega
    have hv3 := hv2
    rw [← downTo_none (turnF bakR ρ) 16] at hv3
    clear hv2
    generalize turnF bakR ρ = q at *
    generalize hs : w.heap.size = s at *
    go_loopw [21] (fun i wr => ∃ k : Nat, k ≤ 16 ∧ i = .int .i64 (k : Int) ∧ wr.ownsRow s 3 1 (.slice (some ⟨gv, 0, none⟩) 16 cv) 16 ((listF 16 (downTo q k)).map (Value.int .i64)) ∧ Below s w wr) (fun i _ => 16 - (intOf i).toNat)
    case atStart => exact ⟨0, by omega, rfl, hv3, h3⟩
    case round =>
      obtain ⟨k, hk, rfl, hown, hb⟩ := hrel
      clear hv3 h3
      by_cases hlt : k < 16
      · have l0 : (0 : Int) ≤ (k : Int) := by omega
        have l1 : (k : Int) < 16 := by omega
        have hcc := hown.cellAt k (by omega)
        rw [map_at _ hlt, downTo_at] at hcc
        have hfz := hown.frozenAt k
        have hst := hown.stored k (.int .i64 ((q k + 32) / 64))
        have hgs : s ≤ gv := own_base hown gv rfl
        have hbs := hb.grown hst.2 (by rw [← hs]; exact hb.size) (fun j hj => by cases hj; exact hgs)
        have hos := hst.1
        rw [downTo_set] at hos
        obtain ⟨y0, y1⟩ := HG.out k hlt
        generalize q k = x at *
        clear hst hown
        go_wp2_with (go_at_call 112; refine (down_any _ _ (by omega) (by omega)).mono ?_; rintro e w5 ⟨rfl, hw⟩; subst w5)
        refine ⟨⟨k + 1, by omega, by go_num, hos, hbs⟩, ?_⟩
        simp [intOf]; omega
      · obtain rfl : k = 16 := by omega
        rw [downTo_full] at hown
        go_wp2
        go_ret
        rw [HL.out, listF_length]
        exact ⟨⟨_, rfl, by rw [hs]; exact hown⟩, by rw [hs]; exact hb⟩
  | false =>
    have HL : Hid (back4L xs = []) := by unfold back4L; exact if_neg (by rw [hb]; decide)
    have HC' : Hid (Calls Tryd.prog 98 #[.slice a xs.length cap, .int .i64 10000000] w _) := fourOf_no a cap xs 10000000 w h hl (by omega) (by omega) hb
    clear hb h hl
    go_enter Tryd.func82, Tryd.ntmps82
    go_wp2_with (first
      | (go_at_call 98; refine HC'.out.mono ?_; rintro e w1 ⟨⟨ρ, rfl⟩, hc1⟩)
      | ((with_reducible refine at_store ?_); generalize hV : World.alloc w1 _ = V; have b0 : Blk V w1.heap.size (arr 16 (fun _ => 0)) 89 := (by rw [← hV]; exact Blk.new w1 _ _); have hb := (show Below w.heap.size w V by rw [← hV]; exact hc1.alloc hc1.size _); clear hV; refine store_arr rfl _ _ _ rfl w1.heap.size 0 rfl 16 ρ rfl (there_of_arr b0 0 16 (by omega)) size44 ?_; have hb2 := below_setCells (g := w1.heap.size) hc1.size (arr 16 ρ).toList 0 V hb; clear b0 hb; generalize World.setCells V w1.heap.size 0 (arr 16 ρ).toList = Z at *))
    go_ret
    rw [HL.out]
    exact ⟨⟨_, rfl, own_none Z hb2.size⟩, hb2.alloc hb2.size _⟩

set_option maxHeartbeats 1600000 in
theorem specFour (a : Option Addr) (cap : Nat) (xs : List Int) (w : World) (h : Ints w a xs) (hl : xs.length ≤ maxLen) :
    Calls Tryd.prog 38 #[.slice a xs.length cap] w fun e w' => (∃ v, e = .returned v ∧ w'.ownsRow w.heap.size 3 1 v (fourL xs).length ((fourL xs).map (Value.int .i64))) ∧ Below w.heap.size w w' := by
  have HA : Hid (Calls Tryd.prog 34 #[.slice a xs.length cap, .int .i64 16, .int .i64 1000] w _) := specAll a cap 16 xs 1000 w h hl (by omega) (by omega)
  cases hb : (decide (xs.length = 16) && inB 1000 xs) with
  | true =>
    obtain ⟨hn, hin⟩ : xs.length = 16 ∧ inB 1000 xs = true := by simpa using hb
    have HL : Hid (fourL xs = listF 16 (turnF sumR (fun i => xs.getD i 0))) := by unfold fourL; exact if_pos hb
    have hI := in_of hn hin
    have HI : Hid (∀ w', Below w.heap.size w w' → Ints w' a (listF 16 (fun i => xs.getD i 0))) := fun w' hb => by
      rw [← hn, listF_self]
      exact h.below hb (Nat.le_refl _)
    rw [hb, hn] at HA
    rw [hn]
    obtain ⟨ρ, hρ⟩ : ∃ ρ : Nat → Int, (fun i => xs.getD i 0) = ρ := ⟨_, rfl⟩
    rw [hρ] at HL HI hI
    have H1 : Hid (In 100000000 16 ρ) := fun i hi => by have := hI i hi; omega
    have H2 : Hid (In 100000000 16 (flipF (rowsF sumR ρ))) := fun i hi => by have := hI.sums.flip i hi; omega
    have HF : Hid (turnF sumR ρ = flipF (rowsF sumR (flipF (rowsF sumR ρ)))) := rfl
    clear hb hn hin h hl hρ hI
    go_enter Tryd.func38, Tryd.ntmps38
    go_wp2_with (first
      | (go_at_call 34; refine HA.out.mono ?_; rintro e w1 ⟨rfl, hc1⟩)
      | (go_at_call 67; first | (have hx := hc3; refine (specRows _ p3 q3 w3 i3 H2.out).mono ?_; rintro e w4 ⟨⟨v, rfl, hv⟩, hc⟩; have hc4 := hc3.trans (hc.mono hc3.size); obtain ⟨p4, q4, rfl, i4⟩ := owned_ints hv; clear hc hv) | (refine (specRows ρ a cap w1 (HI.out w1 hc1) H1.out).mono ?_; rintro e w2 ⟨⟨v, rfl, hv⟩, hc⟩; have hc2 := hc1.trans (hc.mono hc1.size); obtain ⟨p2, q2, rfl, i2⟩ := owned_ints hv; clear hc hv))
      | (go_at_call 66; first | (have hx := hc4; refine (specFlip _ p4 q4 w4 i4).mono ?_; rintro e w5 ⟨⟨v, rfl, hv⟩, hc⟩; have hv5 := own_mono hv hc4.size; have hc5 := hc4.trans (hc.mono hc4.size); clear hc hv) | (refine (specFlip _ p2 q2 w2 i2).mono ?_; rintro e w3 ⟨⟨v, rfl, hv⟩, hc⟩; have hc3 := hc2.trans (hc.mono hc2.size); obtain ⟨p3, q3, rfl, i3⟩ := owned_ints hv; clear hc hv)))
    go_ret
    rw [HL.out, listF_length, HF.out]
    exact ⟨⟨_, rfl, hv5⟩, hc5⟩
  | false =>
    have HL : Hid (fourL xs = []) := by unfold fourL; exact if_neg (by rw [hb]; decide)
    rw [hb] at HA
    clear hb h hl
    go_enter Tryd.func38, Tryd.ntmps38
    go_wp2_with (go_at_call 34; refine HA.out.mono ?_; rintro e w1 ⟨rfl, hc1⟩)
    go_ret
    rw [HL.out]
    exact ⟨⟨_, rfl, own_none w1 hc1.size⟩, hc1.alloc hc1.size _⟩

set_option maxHeartbeats 1600000 in
theorem specFourBack (a : Option Addr) (cap : Nat) (xs : List Int) (w : World) (h : Ints w a xs) (hl : xs.length ≤ maxLen) :
    Calls Tryd.prog 45 #[.slice a xs.length cap] w fun e w' => (∃ v, e = .returned v ∧ w'.ownsRow w.heap.size 3 1 v (back4L xs).length ((back4L xs).map (Value.int .i64))) ∧ Below w.heap.size w w' := by
  have HA : Hid (Calls Tryd.prog 34 #[.slice a xs.length cap, .int .i64 16, .int .i64 10000000] w _) := specAll a cap 16 xs 10000000 w h hl (by omega) (by omega)
  cases hb : (decide (xs.length = 16) && inB 10000000 xs) with
  | true =>
    obtain ⟨hn, hin⟩ : xs.length = 16 ∧ inB 10000000 xs = true := by simpa using hb
    have HL : Hid (back4L xs = listF 16 (fun i => (turnF bakR (fun i => xs.getD i 0) i + 32) / 64)) := by unfold back4L; exact if_pos hb
    have hI := in_of hn hin
    have HI : Hid (∀ w', Below w.heap.size w w' → Ints w' a (listF 16 (fun i => xs.getD i 0))) := fun w' hb => by
      rw [← hn, listF_self]
      exact h.below hb (Nat.le_refl _)
    rw [hb, hn] at HA
    rw [hn]
    obtain ⟨ρ, hρ⟩ : ∃ ρ : Nat → Int, (fun i => xs.getD i 0) = ρ := ⟨_, rfl⟩
    rw [hρ] at HL HI hI
    have H1 : Hid (In 100000000 16 ρ) := fun i hi => by have := hI i hi; omega
    have H2 : Hid (In 100000000 16 (flipF (rowsF bakR ρ))) := fun i hi => by have := (hI.baks (by omega)).flip i hi; omega
    have HF : Hid (turnF bakR ρ = flipF (rowsF bakR (flipF (rowsF bakR ρ)))) := rfl
    clear hb hn hin h hl hρ
    go_enter Tryd.func45, Tryd.ntmps45
    go_wp2_with (first
      | (go_at_call 34; refine HA.out.mono ?_; rintro e w1 ⟨rfl, hc1⟩)
      | (go_at_call 71; first | (have hx := hc3; refine (specBacks _ p3 q3 w3 i3 H2.out).mono ?_; rintro e w4 ⟨⟨v, rfl, hv⟩, hc⟩; have hc4 := hc3.trans (hc.mono hc3.size); obtain ⟨p4, q4, rfl, i4⟩ := owned_ints hv; clear hc hv) | (refine (specBacks ρ a cap w1 (HI.out w1 hc1) H1.out).mono ?_; rintro e w2 ⟨⟨v, rfl, hv⟩, hc⟩; have hc2 := hc1.trans (hc.mono hc1.size); obtain ⟨p2, q2, rfl, i2⟩ := owned_ints hv; clear hc hv))
      | (go_at_call 66; first | (have hx := hc4; refine (specFlip _ p4 q4 w4 i4).mono ?_; rintro e w5 ⟨⟨v, rfl, hv⟩, hc⟩; have hv5 := own_mono hv hc4.size; have hc5 := hc4.trans (hc.mono hc4.size); clear hc hv) | (refine (specFlip _ p2 q2 w2 i2).mono ?_; rintro e w3 ⟨⟨v, rfl, hv⟩, hc⟩; have hc3 := hc2.trans (hc.mono hc2.size); obtain ⟨p3, q3, rfl, i3⟩ := owned_ints hv; clear hc hv)))
    obtain ⟨gv, cv, rfl, hbv, hlv⟩ := hv5.form (by omega)
    clear hbv hlv
    have HG : Hid (In 1000000000 16 (flipF (rowsF bakR (flipF (rowsF bakR ρ))))) := fun i hi => by
      rw [← HF.out]
      have := (hI.back (by omega)) i hi
      omega
    have HL2 : Hid (back4L xs = listF 16 (fun i => ((flipF (rowsF bakR (flipF (rowsF bakR ρ)))) i + 32) / 64)) := by rw [← HF.out]; exact HL
    rw [← downTo_none (flipF (rowsF bakR (flipF (rowsF bakR ρ)))) 16] at hv5
    clear HF HL HI H1 H2 i2 i3 i4 hc1 hc2 hc3 hc4 HA
    generalize flipF (rowsF bakR (flipF (rowsF bakR ρ))) = q at *
    generalize hs : w.heap.size = s at *
    go_loopw [4] (fun i wr => ∃ k : Nat, k ≤ 16 ∧ i = .int .i64 (k : Int) ∧ wr.ownsRow s 3 1 (.slice (some ⟨gv, 0, none⟩) 16 cv) 16 ((listF 16 (downTo q k)).map (Value.int .i64)) ∧ Below s w wr) (fun i _ => 16 - (intOf i).toNat)
    case atStart => exact ⟨0, by omega, rfl, hv5, hc5⟩
    case round =>
      obtain ⟨k, hk, rfl, hown, hb⟩ := hrel
      clear hv5 hc5
      by_cases hlt : k < 16
      · have l0 : (0 : Int) ≤ (k : Int) := by omega
        have l1 : (k : Int) < 16 := by omega
        have hcc := hown.cellAt k (by omega)
        rw [map_at _ hlt, downTo_at] at hcc
        have hfz := hown.frozenAt k
        have hst := hown.stored k (.int .i64 ((q k + 32) / 64))
        have hgs : s ≤ gv := own_base hown gv rfl
        have hbs := hb.grown hst.2 (by rw [← hs]; exact hb.size) (fun j hj => by cases hj; exact hgs)
        have hos := hst.1
        rw [downTo_set] at hos
        obtain ⟨y0, y1⟩ := HG.out k hlt
        generalize q k = x at *
        clear hst hown
        go_wp2_with (go_at_call 69; refine (specDown (x + 32) 64 _ (by omega) (by omega) (.inr rfl)).mono ?_; rintro e w6 ⟨rfl, hw⟩; subst w6)
        refine ⟨⟨k + 1, by omega, by go_num, hos, hbs⟩, ?_⟩
        simp [intOf]; omega
      · obtain rfl : k = 16 := by omega
        rw [downTo_full] at hown
        go_wp2
        go_ret
        rw [HL2.out, listF_length]
        exact ⟨⟨_, rfl, by rw [hs]; exact hown⟩, by rw [hs]; exact hb⟩
  | false =>
    have HL : Hid (back4L xs = []) := by unfold back4L; exact if_neg (by rw [hb]; decide)
    rw [hb] at HA
    clear hb h hl
    go_enter Tryd.func45, Tryd.ntmps45
    go_wp2_with (go_at_call 34; refine HA.out.mono ?_; rintro e w1 ⟨rfl, hc1⟩)
    go_ret
    rw [HL.out]
    exact ⟨⟨_, rfl, own_none w1 hc1.size⟩, hc1.alloc hc1.size _⟩
end Go.Proofs.YtlejfkjanllgbaaDoor

namespace Go.Proofs.YtlejfkjanllgbaaDoor
open Go.RowKit
set_option linter.unusedVariables false

theorem sumR_add (j : Nat) (a b c d a' b' c' d' : Int) : sumR j (a + a') (b + b') (c + c') (d + d') = sumR j a b c d + sumR j a' b' c' d' := by
  unfold sumR
  split <;> omega
theorem rows_add (f g : Nat → Int) : rowsF sumR (fun i => f i + g i) = fun i => rowsF sumR f i + rowsF sumR g i := funext fun i => sumR_add _ _ _ _ _ _ _ _ _
theorem turn_add (f g : Nat → Int) : turnF sumR (fun i => f i + g i) = fun i => turnF sumR f i + turnF sumR g i := by
  unfold turnF
  rw [rows_add]
  have e : flipF (fun i => rowsF sumR f i + rowsF sumR g i) = fun i => flipF (rowsF sumR f) i + flipF (rowsF sumR g) i := rfl
  rw [e, rows_add]
  rfl
/-- The first one is the sum of all. -/
theorem turn_first (f : Nat → Int) : turnF sumR f 0 = sumTo f 16 := by
  simp [turnF, flipF, rowsF, sumR, sumTo]
  omega
/-- Of one number alone all sixteen come back. -/
theorem turn_alone (k : Int) : ∀ i, i < 16 → (turnF bakR (fun i => if i = 0 then 64 * k else 0) i + 32) / 64 = k := fun i hi => by
  have hc : i = 0 ∨ i = 1 ∨ i = 2 ∨ i = 3 ∨ i = 4 ∨ i = 5 ∨ i = 6 ∨ i = 7 ∨ i = 8 ∨ i = 9 ∨ i = 10 ∨ i = 11 ∨ i = 12 ∨ i = 13 ∨ i = 14 ∨ i = 15 := by omega
  rcases hc with rfl | rfl | rfl | rfl | rfl | rfl | rfl | rfl | rfl | rfl | rfl | rfl | rfl | rfl | rfl | rfl <;> simp [turnF, flipF, rowsF, bakR] <;> omega
theorem listF_last (n : Nat) (f : Nat → Int) : (listF n f).map (Value.int .i64) ++ [.int .i64 (f n)] = (listF (n + 1) f).map (Value.int .i64) := by
  unfold listF
  rw [List.range_succ, List.map_append, List.map_append]
  rfl
theorem inB_ofF {M : Int} {l : List Int} (h : ∀ x ∈ l, -M ≤ x ∧ x ≤ M) : inB M l = true := by
  unfold inB
  rw [List.all_eq_true]
  intro x hx
  have := h x hx
  simp [this.1, this.2]
theorem inB_listFF {M : Int} {n : Nat} {f : Nat → Int} (h : ∀ i, i < n → -M ≤ f i ∧ f i ≤ M) : inB M (listF n f) = true := inB_iff.2 fun i hi => by
  rw [listF_length] at hi
  rw [listF_get f hi]
  exact h i hi
theorem fourL_of {l : List Int} (hl : l.length = 16) (hx : ∀ i, i < 16 → -1000 ≤ l.getD i 0 ∧ l.getD i 0 ≤ 1000) : fourL l = listF 16 (turnF sumR (fun i => l.getD i 0)) := by
  unfold fourL
  rw [if_pos (by rw [inB_iff.2 (fun i hi => hx i (by omega))]; simpa using hl)]
theorem fourL_listF {f : Nat → Int} (hx : ∀ i, i < 16 → -1000 ≤ f i ∧ f i ≤ 1000) : fourL (listF 16 f) = listF 16 (turnF sumR f) := by
  rw [fourL_of (listF_length _ _) (fun i hi => by rw [listF_get f hi]; exact hx i hi)]
  exact listF_congr fun i hi => turn_congr (fun j hj => listF_get f hj) i hi
theorem backL_alone (k : Int) (h : -5000 ≤ k ∧ k ≤ 5000) : back4L (listF 16 (fun i => if i = 0 then 64 * k else 0)) = listF 16 (fun _ => k) := by
  unfold back4L
  rw [if_pos (by
    rw [listF_length, inB_listFF (M := 10000000) (fun i hi => by by_cases h0 : i = 0 <;> simp [h0] <;> omega)]
    rfl)]
  refine listF_congr fun i hi => ?_
  rw [turn_congr (g := fun i => if i = 0 then 64 * k else 0) (fun j hj => listF_get _ hj) i hi]
  exact turn_alone k i hi
end Go.Proofs.YtlejfkjanllgbaaDoor
