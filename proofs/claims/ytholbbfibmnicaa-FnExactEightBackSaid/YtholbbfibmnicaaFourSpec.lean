/-
  The walks of spec.l09Flip, l09Rows, l09Backs and l09Down.
-/
import Derived.Test.YtholbbfibmnicaaFourMath
import Derived.Test.YtholbbfibmnicaaAllKit
import Derived.Deep.AppendLies
namespace Go.Proofs.Ytholbbfibmnicaa
open Go.RowKit
set_option linter.unusedVariables false
set_option maxRecDepth 20000

theorem ints_at {w : World} {a : Option Addr} {n : Nat} {f : Nat → Int} (h : Ints w a (listF n f)) (hn : 0 < n) : ∃ b off : Nat, a = some ⟨b, off, none⟩ ∧ b < w.heap.size ∧ ∀ k, k < n → w.cell? ⟨b, off + k, none⟩ = some (.int .i64 (f k)) := by
  rcases h with h | ⟨b, off, ha, hb, hc⟩
  · have := congrArg List.length h
    rw [listF_length] at this
    simp at this
    omega
  · refine ⟨b, off, ha, hb, fun k hk => ?_⟩
    have := hc k (by rw [listF_length]; exact hk)
    rwa [listF_get f hk] at this
theorem ints_cells {w : World} {a : Option Addr} {n : Nat} {f : Nat → Int} (h : Ints w a (listF n f)) (hn : 0 < n) : ∃ b off : Nat, a = some ⟨b, off, none⟩ ∧ Hid (∀ w', Below w.heap.size w w' → ∀ k, k < n → w'.cell? ⟨b, off + k, none⟩ = some (.int .i64 (f k))) := by
  obtain ⟨b, off, ha, hb, hc⟩ := ints_at h hn
  exact ⟨b, off, ha, fun w' hw k hk => (hw.cell (p := ⟨b, off + k, none⟩) hb).trans (hc k hk)⟩

theorem own_base {w : World} {B n s : Nat} {e : TypeId} {v : Value} {xs : List Value} (h : w.ownsRow B e s v n xs) : ∀ k, v.ownBlock = some k → B ≤ k := fun k hk => by
  rcases h.2 with ⟨rfl, _⟩ | ⟨g, cap, cur, rfl, hb, _⟩
  · simp [Value.ownBlock] at hk
  · simp [Value.ownBlock] at hk
    omega
set_option maxHeartbeats 400000 in
theorem specDown (n m : Int) (w : World) (h0 : -10000000000 ≤ n) (h1 : n ≤ 10000000000) (hm : m = 2 ∨ m = 64) : Calls Try.prog 53 #[.int .i64 n, .int .i64 m] w fun e w' => e = .returned (.int .i64 (n / m)) ∧ w' = w := by
  obtain ⟨q, hq⟩ : ∃ q, Int.tdiv n m = q := ⟨_, rfl⟩
  obtain ⟨r, hr⟩ : ∃ r, Int.tmod n m = r := ⟨_, rfl⟩
  have hd := Int.tmod_add_mul_tdiv n m
  have hr0 := Int.tmod_lt_of_pos n (b := m) (by omega)
  have hr1 := Int.lt_tmod_of_pos n (b := m) (by omega)
  rw [hq, hr] at hd
  rw [hr] at hr0 hr1
  have hm0 : ¬ m = 0 := by rcases hm with rfl | rfl <;> decide
  by_cases hneg : r < 0
  · have HV : Hid (n / m = q - 1) := by
      show _ = _
      rcases hm with rfl | rfl <;> omega
    have hqb : -10000000000 ≤ q ∧ q ≤ 10000000000 := by
      rcases hm with rfl | rfl <;> omega
    have hw : IntKind.i64.wrap q = q := IntWalk.i64_in _ ⟨by omega, by omega⟩
    have hw' : wrap64 q = q := IntWalk.wrap64_in _ ⟨by omega, by omega⟩
    rcases hm with rfl | rfl
    all_goals
      clear hd hr0 hr1
      go_enter Try.func53, Try.ntmps53
      go_wp2
      go_ret
      exact ⟨by rw [HV.out]; rfl, rfl⟩
  · have HV : Hid (n / m = q) := by
      show _ = _
      rcases hm with rfl | rfl <;> omega
    have hqb : -10000000000 ≤ q ∧ q ≤ 10000000000 := by
      rcases hm with rfl | rfl <;> omega
    have hw : IntKind.i64.wrap q = q := IntWalk.i64_in _ ⟨by omega, by omega⟩
    have hw' : wrap64 q = q := IntWalk.wrap64_in _ ⟨by omega, by omega⟩
    rcases hm with rfl | rfl
    all_goals
      clear hd hr0 hr1
      go_enter Try.func53, Try.ntmps53
      go_wp2
      go_ret
      exact ⟨by rw [HV.out]; rfl, rfl⟩

/-- The first k numbers are put where they go. -/
def putTo (f : Nat → Int) (k i : Nat) : Int := if i < 16 ∧ i % 4 * 4 + i / 4 < k then flipF f i else 0
theorem putTo_set (f : Nat → Int) (k : Nat) (hk : k < 16) : ((listF 16 (putTo f k)).map (Value.int .i64)).set (k % 4 * 4 + k / 4) (.int .i64 (f k)) = (listF 16 (putTo f (k + 1))).map (Value.int .i64) := by
  unfold listF
  rw [List.map_map, List.map_map]
  have e : Value.int .i64 (f k) = (Value.int .i64 ∘ putTo f (k + 1)) (k % 4 * 4 + k / 4) := by
    simp only [Function.comp, putTo, flipF]
    rw [if_pos (by omega), show (k % 4 * 4 + k / 4) % 4 * 4 + (k % 4 * 4 + k / 4) / 4 = k by omega]
  rw [e]
  refine int_range_set 16 _ _ _ (fun i hi => ?_)
  simp only [Function.comp, putTo]
  by_cases h : i < 16 ∧ i % 4 * 4 + i / 4 < k
  · rw [if_pos h, if_pos (by omega)]
  · rw [if_neg h, if_neg (by omega)]
theorem putTo_none (f : Nat → Int) : (madeCells (Value.int .i64 0).cells (16 * 1)).toList = (listF 16 (putTo f 0)).map (Value.int .i64) := by
  rw [int_made]
  unfold listF
  rw [List.map_map]
  apply List.map_congr_left
  intro i hi
  simp [putTo]
theorem putTo_full (f : Nat → Int) : listF 16 (putTo f 16) = listF 16 (flipF f) := listF_congr fun i hi => by
  unfold putTo
  rw [if_pos ⟨hi, by omega⟩]

set_option maxHeartbeats 800000 in
theorem specFlip (f : Nat → Int) (a : Option Addr) (cap : Nat) (w : World) (h : Ints w a (listF 16 f)) :
    Calls Try.prog 50 #[.slice a 16 cap] w fun e w' => (∃ v, e = .returned v ∧ w'.ownsRow w.heap.size 3 1 v 16 ((listF 16 (flipF f)).map (Value.int .i64))) ∧ Below w.heap.size w w' := by
  obtain ⟨i0, hi0, hz0, hz1, hz2⟩ := info_parts infoI
  obtain ⟨b, off, ha, HI⟩ := ints_cells h (by omega)
  subst ha
  clear h
  go_enter Try.func50, Try.ntmps50
  go_wp2_with (at_make; refine wpList_make_full _ (by rfl) _ _ 24 (by rfl) w.heap.size 3 i0 (.int .i64 0) 1 Try.underlying24 hi0 hz0 hz1 .i64 .i64 _ _ 16 (by rfl) (by rfl) (by rfl) (by rfl) (by rw [hz2]; omega) (by unfold maxLen; omega) (Nat.le_refl _) ?_; intro w1 hown0 hgrow0)
  have hb0 : Below w.heap.size w w1 := (Below.refl _ _).grown hgrow0 (Nat.le_refl _) (fun j hj => by cases hj)
  rw [putTo_none f] at hown0
  clear hgrow0
  go_loopw [4] (fun i wr => ∃ k : Nat, k ≤ 16 ∧ i = .int .i64 (k : Int) ∧ wr.ownsRow w.heap.size 3 1 (.slice (some ⟨w.heap.size, 0, none⟩) 16 16) 16 ((listF 16 (putTo f k)).map (Value.int .i64)) ∧ Below w.heap.size w wr) (fun i _ => 16 - (intOf i).toNat)
  case atStart => exact ⟨0, by omega, rfl, hown0, hb0⟩
  case round =>
    obtain ⟨k, hk, rfl, hown, hb⟩ := hrel
    clear hown0 hb0
    by_cases hlt : k < 16
    · have l0 : (0 : Int) ≤ (k : Int) := by omega
      have l1 : (k : Int) < 16 := by omega
      have d1 := HI.out wr hb k hlt
      have hcc := hown.cellAt (k % 4 * 4 + k / 4) (by omega)
      have hfz := hown.frozenAt (k % 4 * 4 + k / 4)
      have hc' : wr.cell? ⟨w.heap.size, k % 4 * 4 + k / 4, none⟩ = some (.int .i64 (putTo f k (k % 4 * 4 + k / 4))) := by
        rw [hcc]
        simp [listF, show k % 4 * 4 + k / 4 < 16 by omega]
      have hst := hown.stored (k % 4 * 4 + k / 4) (.int .i64 (f k))
      have hbs := hb.grown hst.2 hb.size (fun j hj => by cases hj; exact Nat.le_refl _)
      have hos := hst.1
      rw [putTo_set f k hlt] at hos
      generalize f k = x at *
      clear hcc hst hown
      go_wp2
      go_roundw
      case rel => exact ⟨k + 1, by omega, by go_num, hos, hbs⟩
      case measure => simp [intOf]; omega
    · obtain rfl : k = 16 := by omega
      rw [putTo_full] at hown
      go_wp2
      go_ret
      exact ⟨⟨_, rfl, hown⟩, hb⟩

set_option maxHeartbeats 1600000 in
theorem specRows (f : Nat → Int) (a : Option Addr) (cap : Nat) (w : World) (h : Ints w a (listF 16 f)) (hf : In 100000000 16 f) :
    Calls Try.prog 51 #[.slice a 16 cap] w fun e w' => (∃ v, e = .returned v ∧ w'.ownsRow w.heap.size 3 1 v 16 ((listF 16 (rowsF sumR f)).map (Value.int .i64))) ∧ Below w.heap.size w w' := by
  obtain ⟨i0, hi0, hz0, hz1, hz2⟩ := info_parts infoI
  obtain ⟨b, off, ha, HI⟩ := ints_cells h (by omega)
  subst ha
  clear h
  go_enter Try.func51, Try.ntmps51
  go_wp2_with fail
  go_loopw [3, 4] (fun v i wr => ∃ k : Nat, k ≤ 4 ∧ i = .int .i64 (k : Int) ∧ wr.ownsRow w.heap.size 3 1 v (4 * k) ((listF (4 * k) (rowsF sumR f)).map (Value.int .i64)) ∧ Below w.heap.size w wr) (fun _ i _ => 4 - (intOf i).toNat)
  case atStart => exact ⟨0, by omega, rfl, World.ownsRow_made w #[] 0 (Nat.le_refl _) (by unfold maxLen; omega) rfl, (Below.refl _ _).alloc (Nat.le_refl _) _⟩
  case round =>
    obtain ⟨k, hk, rfl, hown, hb⟩ := hrel
    by_cases hlt : k < 4
    · have l0 : (0 : Int) ≤ (k : Int) := by omega
      have l1 : (k : Int) < 4 := by omega
      have d0 := HI.out wr hb (4 * k) (by omega)
      have d1 := HI.out wr hb (4 * k + 1) (by omega)
      have d2 := HI.out wr hb (4 * k + 2) (by omega)
      have d3 := HI.out wr hb (4 * k + 3) (by omega)
      obtain ⟨a0, a1⟩ := hf (4 * k) (by omega)
      obtain ⟨b0, b1⟩ := hf (4 * k + 1) (by omega)
      obtain ⟨c0, c1⟩ := hf (4 * k + 2) (by omega)
      obtain ⟨e0, e1⟩ := hf (4 * k + 3) (by omega)
      have HL : Hid ((listF (4 * k) (rowsF sumR f)).map (Value.int .i64) ++ (listF 4 (fun j => sumR j (f (4 * k)) (f (4 * k + 1)) (f (4 * k + 2)) (f (4 * k + 3)))).map (Value.int .i64) = (listF (4 * (k + 1)) (rowsF sumR f)).map (Value.int .i64)) := by
        show _ = _
        rw [← List.map_append, show listF 4 (fun j => sumR j (f (4 * k)) (f (4 * k + 1)) (f (4 * k + 2)) (f (4 * k + 3))) = listF 4 (fun j => rowsF sumR f (4 * k + j)) from listF_congr fun i hi => (rowsF_at _ _ _ _ hi).symm, listF_append]
        rfl
      generalize f (4 * k) = x0 at *
      generalize f (4 * k + 1) = x1 at *
      generalize f (4 * k + 2) = x2 at *
      generalize f (4 * k + 3) = x3 at *
      go_wp2_with (at_builtin; refine wpList_append_lies _ (by rfl) _ _ 24 (by rfl) w.heap.size 3 i0 (.int .i64 0) 1 8 Try.underlying24 hi0 hz0 hz1 hz2 rfl (by omega) u3 (4 * k) _ (by rfl) (hown.alloc _) ⟨wr.heap.size, 0, none⟩ 4 4 ((listF 4 (fun j => sumR j x0 x1 x2 x3)).map (Value.int .i64)) (by rfl) (by rfl) (World.news_of_block (cs := #[.int .i64 (sumR 0 x0 x1 x2 x3), .int .i64 (sumR 1 x0 x1 x2 x3), .int .i64 (sumR 2 x0 x1 x2 x3), .int .i64 (sumR 3 x0 x1 x2 x3)]) (t := 3) (fr := (0, 0)) (heap_alloc_new wr _)) (ints_oneCell .i64 _) (by omega) (by unfold maxLen; omega) (by omega) (by have := hb.size; simp; omega) (wr.heap.size + 1) (by simp) ?_; intro gg cp w4 hown2 hgrow hat hlt2)
      rw [HL.out] at hown2
      refine ⟨⟨k + 1, by omega, by go_num, hown2, (hb.alloc hb.size _).grown hgrow (by have := hb.size; simp; omega) (own_base hown)⟩, ?_⟩
      simp [intOf]; omega
    · obtain rfl : k = 4 := by omega
      go_wp2
      go_ret
      exact ⟨⟨_, rfl, hown⟩, hb⟩
set_option maxHeartbeats 1600000 in
theorem specBacks (f : Nat → Int) (a : Option Addr) (cap : Nat) (w : World) (h : Ints w a (listF 16 f)) (hf : In 100000000 16 f) :
    Calls Try.prog 52 #[.slice a 16 cap] w fun e w' => (∃ v, e = .returned v ∧ w'.ownsRow w.heap.size 3 1 v 16 ((listF 16 (rowsF bakR f)).map (Value.int .i64))) ∧ Below w.heap.size w w' := by
  obtain ⟨i0, hi0, hz0, hz1, hz2⟩ := info_parts infoI
  obtain ⟨b, off, ha, HI⟩ := ints_cells h (by omega)
  subst ha
  clear h
  go_enter Try.func52, Try.ntmps52
  go_wp2_with fail
  go_loopw [3, 4] (fun v i wr => ∃ k : Nat, k ≤ 4 ∧ i = .int .i64 (k : Int) ∧ wr.ownsRow w.heap.size 3 1 v (4 * k) ((listF (4 * k) (rowsF bakR f)).map (Value.int .i64)) ∧ Below w.heap.size w wr) (fun _ i _ => 4 - (intOf i).toNat)
  case atStart => exact ⟨0, by omega, rfl, World.ownsRow_made w #[] 0 (Nat.le_refl _) (by unfold maxLen; omega) rfl, (Below.refl _ _).alloc (Nat.le_refl _) _⟩
  case round =>
    obtain ⟨k, hk, rfl, hown, hb⟩ := hrel
    by_cases hlt : k < 4
    · have l0 : (0 : Int) ≤ (k : Int) := by omega
      have l1 : (k : Int) < 4 := by omega
      have d0 := HI.out wr hb (4 * k) (by omega)
      have d1 := HI.out wr hb (4 * k + 1) (by omega)
      have d2 := HI.out wr hb (4 * k + 2) (by omega)
      have d3 := HI.out wr hb (4 * k + 3) (by omega)
      obtain ⟨a0, a1⟩ := hf (4 * k) (by omega)
      obtain ⟨b0, b1⟩ := hf (4 * k + 1) (by omega)
      obtain ⟨c0, c1⟩ := hf (4 * k + 2) (by omega)
      obtain ⟨e0, e1⟩ := hf (4 * k + 3) (by omega)
      have HL : Hid ((listF (4 * k) (rowsF bakR f)).map (Value.int .i64) ++ (listF 4 (fun j => bakR j (f (4 * k)) (f (4 * k + 1)) (f (4 * k + 2)) (f (4 * k + 3)))).map (Value.int .i64) = (listF (4 * (k + 1)) (rowsF bakR f)).map (Value.int .i64)) := by
        show _ = _
        rw [← List.map_append, show listF 4 (fun j => bakR j (f (4 * k)) (f (4 * k + 1)) (f (4 * k + 2)) (f (4 * k + 3))) = listF 4 (fun j => rowsF bakR f (4 * k + j)) from listF_congr fun i hi => (rowsF_at _ _ _ _ hi).symm, listF_append]
        rfl
      generalize f (4 * k) = x0 at *
      generalize f (4 * k + 1) = x1 at *
      generalize f (4 * k + 2) = x2 at *
      generalize f (4 * k + 3) = x3 at *
      go_wp2_with (first | (go_at_call 53; refine (specDown _ 2 _ (by omega) (by omega) (.inl rfl)).mono ?_; rintro e w1 ⟨rfl, hw⟩; subst w1) | (at_builtin; refine wpList_append_lies _ (by rfl) _ _ 24 (by rfl) w.heap.size 3 i0 (.int .i64 0) 1 8 Try.underlying24 hi0 hz0 hz1 hz2 rfl (by omega) u3 (4 * k) _ (by rfl) (hown.alloc _) ⟨wr.heap.size, 0, none⟩ 4 4 ((listF 4 (fun j => bakR j x0 x1 x2 x3)).map (Value.int .i64)) (by rfl) (by rfl) (World.news_of_block (cs := #[.int .i64 (bakR 0 x0 x1 x2 x3), .int .i64 (bakR 1 x0 x1 x2 x3), .int .i64 (bakR 2 x0 x1 x2 x3), .int .i64 (bakR 3 x0 x1 x2 x3)]) (t := 3) (fr := (0, 0)) (heap_alloc_new wr _)) (ints_oneCell .i64 _) (by omega) (by unfold maxLen; omega) (by omega) (by have := hb.size; simp; omega) (wr.heap.size + 1) (by simp) ?_; intro gg cp w4 hown2 hgrow hat hlt2))
      rw [HL.out] at hown2
      refine ⟨⟨k + 1, by omega, by go_num, hown2, (hb.alloc hb.size _).grown hgrow (by have := hb.size; simp; omega) (own_base hown)⟩, ?_⟩
      simp [intOf]; omega
    · obtain rfl : k = 4 := by omega
      go_wp2
      go_ret
      exact ⟨⟨_, rfl, hown⟩, hb⟩
end Go.Proofs.Ytholbbfibmnicaa
