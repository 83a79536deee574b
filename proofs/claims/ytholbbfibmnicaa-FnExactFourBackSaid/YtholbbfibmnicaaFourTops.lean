/-
  The walks of impl.Four, impl.FourBack, spec.Four and spec.FourBack.
-/
import Derived.Test.YtholbbfibmnicaaFourTop
import Derived.Test.YtholbbfibmnicaaFourList
import Derived.Test.YtholbbfibmnicaaFourOf
import Derived.Test.YtholbbfibmnicaaFourSpec
import Derived.Test.YtholbbfibmnicaaOwnKit
namespace Go.Proofs.Ytholbbfibmnicaa
open Go.RowKit
set_option linter.unusedVariables false
set_option maxRecDepth 20000

/-- Turns of four of a list of numbers; nothing of any other list. -/
def fourL (xs : List Int) : List Int := if (decide (xs.length = 16) && inB 1000 xs) = true then listF 16 (turnF sumR (fun i => xs.getD i 0)) else []
def backL (xs : List Int) : List Int := if (decide (xs.length = 16) && inB 10000000 xs) = true then listF 16 (fun i => (turnF bakR (fun i => xs.getD i 0) i + 32) / 64) else []

theorem fourL_le (xs : List Int) : (fourL xs).length ≤ 64 := by
  unfold fourL
  split
  · rw [listF_length]; omega
  · simp
theorem backL_le (xs : List Int) : (backL xs).length ≤ 64 := by
  unfold backL
  split
  · rw [listF_length]; omega
  · simp
theorem in_of {M : Int} {n : Nat} {xs : List Int} (hl : xs.length = n) (h : inB M xs = true) : In M n (fun i => xs.getD i 0) := fun i hi => inB_iff.1 h i (by omega)

set_option maxHeartbeats 1600000 in
theorem implFour (a : Option Addr) (cap : Nat) (xs : List Int) (w : World) (h : Ints w a xs) (hl : xs.length ≤ maxLen) :
    Calls Try.prog 15 #[.slice a xs.length cap] w fun e w' => (∃ v, e = .returned v ∧ w'.ownsRow w.heap.size 3 1 v (fourL xs).length ((fourL xs).map (Value.int .i64))) ∧ Below w.heap.size w w' := by
  cases hb : (decide (xs.length = 16) && inB 1000 xs) with
  | true =>
    obtain ⟨hn, hin⟩ : xs.length = 16 ∧ inB 1000 xs = true := by simpa using hb
    have HL : Hid (fourL xs = listF 16 (turnF sumR (fun i => xs.getD i 0))) := by unfold fourL; exact if_pos hb
    have hI := in_of hn hin
    have HC := fourOf_yes a cap xs 1000 w h hl (by omega) (by omega) hn hin
    rw [hn] at HC ⊢
    obtain ⟨ρ, hρ⟩ : ∃ ρ : Nat → Int, (fun i => xs.getD i 0) = ρ := ⟨_, rfl⟩
    rw [hρ] at HL HC hI
    have HC' : Hid (Calls Try.prog 37 #[.slice a 16 cap, .int .i64 1000] w _) := HC
    have HT : Hid (∀ w', Calls Try.prog 38 #[.agg (arr 16 ρ), .func (Fn.func 39) #[] #[]] w' (fun e w'' => e = .returned (.agg (arr 16 (turnF sumR ρ))) ∧ Below w'.heap.size w' w'')) := fun w' => sums_turned ρ w' (fun i hi => by have := hI i hi; omega)
    clear hb hn hin h hl HC hI hρ
    go_enter Try.func15, Try.ntmps15
    go_wp2_with (first
      | (go_at_call 37; refine HC'.out.mono ?_; rintro e w1 ⟨rfl, hc1⟩)
      | ((with_reducible refine at_store ?_); generalize hV : World.alloc w1 _ = V; have b0 : Blk V w1.heap.size (arr 16 (fun _ => 0)) 44 := (by rw [← hV]; exact Blk.new w1 _ _); have hb := (show Below w.heap.size w V by rw [← hV]; exact hc1.alloc hc1.size _); have hb1 := (show Below w1.heap.size w1 V by rw [← hV]; exact (Below.refl _ _).alloc (Nat.le_refl _) _); clear hV; refine store_arr rfl _ _ _ rfl w1.heap.size 0 rfl 16 ρ rfl (there_of_arr b0 0 16 (by omega)) size44 ?_; have b2 : Blk (V.setCells w1.heap.size 0 (arr 16 ρ).toList) w1.heap.size (arr 16 ρ) 44 := (arr_store (k := ρ) b0 0 16 (by omega) (fun i hi => by rw [Nat.zero_add]) (fun i hi h => by omega)); have hb2 := below_setCells (g := w1.heap.size) hc1.size (arr 16 ρ).toList 0 V hb; clear b0 hb hb1; generalize World.setCells V w1.heap.size 0 (arr 16 ρ).toList = Z at *)
      | ((with_reducible refine at_load ?_); refine load_arr rfl _ _ rfl w1.heap.size 0 rfl 16 ρ (range_all b2) Try.underlying44 rfl size44 ?_; simp only [Act.put, List.setIfInBounds_toArray, List.set_cons_zero, List.set_cons_succ])
      | (go_at_call 38; refine (HT.out _).mono ?_; rintro e w2 ⟨rfl, hc2⟩)
      | (go_at_call 40; refine (fourList _ _).mono ?_; rintro e w3 ⟨⟨v, rfl, hv⟩, hc3⟩))
    go_ret
    rw [HL.out, listF_length]
    have h2 := hb2.trans (hc2.mono hb2.size)
    exact ⟨⟨_, rfl, own_mono hv h2.size⟩, h2.trans (hc3.mono h2.size)⟩
  | false =>
    have HL : Hid (fourL xs = []) := by unfold fourL; exact if_neg (by rw [hb]; decide)
    have HC' : Hid (Calls Try.prog 37 #[.slice a xs.length cap, .int .i64 1000] w _) := fourOf_no a cap xs 1000 w h hl (by omega) (by omega) hb
    clear hb h hl
    go_enter Try.func15, Try.ntmps15
    go_wp2_with (first
      | (go_at_call 37; refine HC'.out.mono ?_; rintro e w1 ⟨⟨ρ, rfl⟩, hc1⟩)
      | ((with_reducible refine at_store ?_); generalize hV : World.alloc w1 _ = V; have b0 : Blk V w1.heap.size (arr 16 (fun _ => 0)) 44 := (by rw [← hV]; exact Blk.new w1 _ _); have hb := (show Below w.heap.size w V by rw [← hV]; exact hc1.alloc hc1.size _); clear hV; refine store_arr rfl _ _ _ rfl w1.heap.size 0 rfl 16 ρ rfl (there_of_arr b0 0 16 (by omega)) size44 ?_; have hb2 := below_setCells (g := w1.heap.size) hc1.size (arr 16 ρ).toList 0 V hb; clear b0 hb; generalize World.setCells V w1.heap.size 0 (arr 16 ρ).toList = Z at *))
    go_ret
    rw [HL.out]
    exact ⟨⟨_, rfl, own_none Z hb2.size⟩, hb2.alloc hb2.size _⟩
set_option maxHeartbeats 1600000 in
theorem implFourBack (a : Option Addr) (cap : Nat) (xs : List Int) (w : World) (h : Ints w a xs) (hl : xs.length ≤ maxLen) :
    Calls Try.prog 16 #[.slice a xs.length cap] w fun e w' => (∃ v, e = .returned v ∧ w'.ownsRow w.heap.size 3 1 v (backL xs).length ((backL xs).map (Value.int .i64))) ∧ Below w.heap.size w w' := by
  cases hb : (decide (xs.length = 16) && inB 10000000 xs) with
  | true =>
    obtain ⟨hn, hin⟩ : xs.length = 16 ∧ inB 10000000 xs = true := by simpa using hb
    have HL : Hid (backL xs = listF 16 (fun i => (turnF bakR (fun i => xs.getD i 0) i + 32) / 64)) := by unfold backL; exact if_pos hb
    have hI := in_of hn hin
    have HC := fourOf_yes a cap xs 10000000 w h hl (by omega) (by omega) hn hin
    rw [hn] at HC ⊢
    obtain ⟨ρ, hρ⟩ : ∃ ρ : Nat → Int, (fun i => xs.getD i 0) = ρ := ⟨_, rfl⟩
    rw [hρ] at HL HC hI
    have HC' : Hid (Calls Try.prog 37 #[.slice a 16 cap, .int .i64 10000000] w _) := HC
    have HT : Hid (∀ w', Calls Try.prog 38 #[.agg (arr 16 ρ), .func (Fn.func 41) #[] #[]] w' (fun e w'' => e = .returned (.agg (arr 16 (turnF bakR ρ))) ∧ Below w'.heap.size w' w'')) := fun w' => baks_turned ρ w' (fun i hi => by have := hI i hi; omega)
    clear hb hn hin h hl HC hρ
    go_enter Try.func16, Try.ntmps16
    go_wp2_with (first
      | (go_at_call 37; refine HC'.out.mono ?_; rintro e w1 ⟨rfl, hc1⟩)
      | ((with_reducible refine at_store ?_); generalize hV : World.alloc w1 _ = V; have b0 : Blk V w1.heap.size (arr 16 (fun _ => 0)) 44 := (by rw [← hV]; exact Blk.new w1 _ _); have hb := (show Below w.heap.size w V by rw [← hV]; exact hc1.alloc hc1.size _); have hb1 := (show Below w1.heap.size w1 V by rw [← hV]; exact (Below.refl _ _).alloc (Nat.le_refl _) _); clear hV; refine store_arr rfl _ _ _ rfl w1.heap.size 0 rfl 16 ρ rfl (there_of_arr b0 0 16 (by omega)) size44 ?_; have b2 : Blk (V.setCells w1.heap.size 0 (arr 16 ρ).toList) w1.heap.size (arr 16 ρ) 44 := (arr_store (k := ρ) b0 0 16 (by omega) (fun i hi => by rw [Nat.zero_add]) (fun i hi h => by omega)); have hb2 := below_setCells (g := w1.heap.size) hc1.size (arr 16 ρ).toList 0 V hb; clear b0 hb hb1; generalize World.setCells V w1.heap.size 0 (arr 16 ρ).toList = Z at *)
      | ((with_reducible refine at_load ?_); refine load_arr rfl _ _ rfl w1.heap.size 0 rfl 16 ρ (range_all b2) Try.underlying44 rfl size44 ?_; simp only [Act.put, List.setIfInBounds_toArray, List.set_cons_zero, List.set_cons_succ])
      | (go_at_call 38; refine (HT.out _).mono ?_; rintro e w2 ⟨rfl, hc2⟩)
      | (go_at_call 40; refine (fourList _ _).mono ?_; rintro e w3 ⟨⟨v, rfl, hv⟩, hc3⟩; obtain ⟨gv, cv, rfl, hbv, hlv⟩ := hv.form (by omega)))
    have h2 := hb2.trans (hc2.mono hb2.size)
    have h3 := h2.trans (hc3.mono h2.size)
    have hv2 := own_mono hv h2.size
    clear hv hbv hlv hc2 hc3 b2 HT
    have HG : Hid (In 1000000000 16 (turnF bakR ρ)) := fun i hi => by have := (hI.back (by omega)) i hi; omega
    have hv3 := hv2
    rw [← downTo_none (turnF bakR ρ) 16] at hv3
    clear hv2
    generalize turnF bakR ρ = q at *
    generalize hs : w.heap.size = s at *
    go_loopw [21] (fun i wr => ∃ k : Nat, k ≤ 16 ∧ i = .int .i64 (k : Int) ∧ wr.ownsRow s 3 1 (.slice (some ⟨gv, 0, none⟩) 16 cv) 16 ((listF 16 (downTo q k)).map (Value.int .i64)) ∧ Below s w wr) (fun i _ => 16 - (intOf i).toNat)
    case atStart => exact ⟨0, by omega, rfl, hv3, h3⟩
    case round =>
      obtain ⟨k, hk, rfl, hown, hb⟩ := hrel
      clear hv3 h3
      by_cases hlt : k < 16
      · have l0 : (0 : Int) ≤ (k : Int) := by omega
        have l1 : (k : Int) < 16 := by omega
        have hcc := hown.cellAt k (by omega)
        rw [map_at _ hlt, downTo_at] at hcc
        have hfz := hown.frozenAt k
        have hst := hown.stored k (.int .i64 ((q k + 32) / 64))
        have hgs : s ≤ gv := own_base hown gv rfl
        have hbs := hb.grown hst.2 (by rw [← hs]; exact hb.size) (fun j hj => by cases hj; exact hgs)
        have hos := hst.1
        rw [downTo_set] at hos
        obtain ⟨y0, y1⟩ := HG.out k hlt
        generalize q k = x at *
        clear hst hown
        go_wp2_with (go_at_call 42; refine (down_any _ _ (by omega) (by omega)).mono ?_; rintro e w5 ⟨rfl, hw⟩; subst w5)
        refine ⟨⟨k + 1, by omega, by go_num, hos, hbs⟩, ?_⟩
        simp [intOf]; omega
      · obtain rfl : k = 16 := by omega
        rw [downTo_full] at hown
        go_wp2
        go_ret
        rw [HL.out, listF_length]
        exact ⟨⟨_, rfl, by rw [hs]; exact hown⟩, by rw [hs]; exact hb⟩
  | false =>
    have HL : Hid (backL xs = []) := by unfold backL; exact if_neg (by rw [hb]; decide)
    have HC' : Hid (Calls Try.prog 37 #[.slice a xs.length cap, .int .i64 10000000] w _) := fourOf_no a cap xs 10000000 w h hl (by omega) (by omega) hb
    clear hb h hl
    go_enter Try.func16, Try.ntmps16
    go_wp2_with (first
      | (go_at_call 37; refine HC'.out.mono ?_; rintro e w1 ⟨⟨ρ, rfl⟩, hc1⟩)
      | ((with_reducible refine at_store ?_); generalize hV : World.alloc w1 _ = V; have b0 : Blk V w1.heap.size (arr 16 (fun _ => 0)) 44 := (by rw [← hV]; exact Blk.new w1 _ _); have hb := (show Below w.heap.size w V by rw [← hV]; exact hc1.alloc hc1.size _); clear hV; refine store_arr rfl _ _ _ rfl w1.heap.size 0 rfl 16 ρ rfl (there_of_arr b0 0 16 (by omega)) size44 ?_; have hb2 := below_setCells (g := w1.heap.size) hc1.size (arr 16 ρ).toList 0 V hb; clear b0 hb; generalize World.setCells V w1.heap.size 0 (arr 16 ρ).toList = Z at *))
    go_ret
    rw [HL.out]
    exact ⟨⟨_, rfl, own_none Z hb2.size⟩, hb2.alloc hb2.size _⟩

set_option maxHeartbeats 1600000 in
theorem specFour (a : Option Addr) (cap : Nat) (xs : List Int) (w : World) (h : Ints w a xs) (hl : xs.length ≤ maxLen) :
    Calls Try.prog 22 #[.slice a xs.length cap] w fun e w' => (∃ v, e = .returned v ∧ w'.ownsRow w.heap.size 3 1 v (fourL xs).length ((fourL xs).map (Value.int .i64))) ∧ Below w.heap.size w w' := by
  have HA : Hid (Calls Try.prog 49 #[.slice a xs.length cap, .int .i64 16, .int .i64 1000] w _) := specAll a cap 16 xs 1000 w h hl (by omega) (by omega)
  cases hb : (decide (xs.length = 16) && inB 1000 xs) with
  | true =>
    obtain ⟨hn, hin⟩ : xs.length = 16 ∧ inB 1000 xs = true := by simpa using hb
    have HL : Hid (fourL xs = listF 16 (turnF sumR (fun i => xs.getD i 0))) := by unfold fourL; exact if_pos hb
    have hI := in_of hn hin
    have HI : Hid (∀ w', Below w.heap.size w w' → Ints w' a (listF 16 (fun i => xs.getD i 0))) := fun w' hb => by
      rw [← hn, listF_self]
      exact h.below hb (Nat.le_refl _)
    rw [hb, hn] at HA
    rw [hn]
    obtain ⟨ρ, hρ⟩ : ∃ ρ : Nat → Int, (fun i => xs.getD i 0) = ρ := ⟨_, rfl⟩
    rw [hρ] at HL HI hI
    have H1 : Hid (In 100000000 16 ρ) := fun i hi => by have := hI i hi; omega
    have H2 : Hid (In 100000000 16 (flipF (rowsF sumR ρ))) := fun i hi => by have := hI.sums.flip i hi; omega
    have HF : Hid (turnF sumR ρ = flipF (rowsF sumR (flipF (rowsF sumR ρ)))) := rfl
    clear hb hn hin h hl hρ hI
    go_enter Try.func22, Try.ntmps22
    go_wp2_with (first
      | (go_at_call 49; refine HA.out.mono ?_; rintro e w1 ⟨rfl, hc1⟩)
      | (go_at_call 51; first | (have hx := hc3; refine (specRows _ p3 q3 w3 i3 H2.out).mono ?_; rintro e w4 ⟨⟨v, rfl, hv⟩, hc⟩; have hc4 := hc3.trans (hc.mono hc3.size); obtain ⟨p4, q4, rfl, i4⟩ := owned_ints hv; clear hc hv) | (refine (specRows ρ a cap w1 (HI.out w1 hc1) H1.out).mono ?_; rintro e w2 ⟨⟨v, rfl, hv⟩, hc⟩; have hc2 := hc1.trans (hc.mono hc1.size); obtain ⟨p2, q2, rfl, i2⟩ := owned_ints hv; clear hc hv))
      | (go_at_call 50; first | (have hx := hc4; refine (specFlip _ p4 q4 w4 i4).mono ?_; rintro e w5 ⟨⟨v, rfl, hv⟩, hc⟩; have hv5 := own_mono hv hc4.size; have hc5 := hc4.trans (hc.mono hc4.size); clear hc hv) | (refine (specFlip _ p2 q2 w2 i2).mono ?_; rintro e w3 ⟨⟨v, rfl, hv⟩, hc⟩; have hc3 := hc2.trans (hc.mono hc2.size); obtain ⟨p3, q3, rfl, i3⟩ := owned_ints hv; clear hc hv)))
    go_ret
    rw [HL.out, listF_length, HF.out]
    exact ⟨⟨_, rfl, hv5⟩, hc5⟩
  | false =>
    have HL : Hid (fourL xs = []) := by unfold fourL; exact if_neg (by rw [hb]; decide)
    rw [hb] at HA
    clear hb h hl
    go_enter Try.func22, Try.ntmps22
    go_wp2_with (go_at_call 49; refine HA.out.mono ?_; rintro e w1 ⟨rfl, hc1⟩)
    go_ret
    rw [HL.out]
    exact ⟨⟨_, rfl, own_none w1 hc1.size⟩, hc1.alloc hc1.size _⟩

set_option maxHeartbeats 1600000 in
theorem specFourBack (a : Option Addr) (cap : Nat) (xs : List Int) (w : World) (h : Ints w a xs) (hl : xs.length ≤ maxLen) :
    Calls Try.prog 27 #[.slice a xs.length cap] w fun e w' => (∃ v, e = .returned v ∧ w'.ownsRow w.heap.size 3 1 v (backL xs).length ((backL xs).map (Value.int .i64))) ∧ Below w.heap.size w w' := by
  have HA : Hid (Calls Try.prog 49 #[.slice a xs.length cap, .int .i64 16, .int .i64 10000000] w _) := specAll a cap 16 xs 10000000 w h hl (by omega) (by omega)
  cases hb : (decide (xs.length = 16) && inB 10000000 xs) with
  | true =>
    obtain ⟨hn, hin⟩ : xs.length = 16 ∧ inB 10000000 xs = true := by simpa using hb
    have HL : Hid (backL xs = listF 16 (fun i => (turnF bakR (fun i => xs.getD i 0) i + 32) / 64)) := by unfold backL; exact if_pos hb
    have hI := in_of hn hin
    have HI : Hid (∀ w', Below w.heap.size w w' → Ints w' a (listF 16 (fun i => xs.getD i 0))) := fun w' hb => by
      rw [← hn, listF_self]
      exact h.below hb (Nat.le_refl _)
    rw [hb, hn] at HA
    rw [hn]
    obtain ⟨ρ, hρ⟩ : ∃ ρ : Nat → Int, (fun i => xs.getD i 0) = ρ := ⟨_, rfl⟩
    rw [hρ] at HL HI hI
    have H1 : Hid (In 100000000 16 ρ) := fun i hi => by have := hI i hi; omega
    have H2 : Hid (In 100000000 16 (flipF (rowsF bakR ρ))) := fun i hi => by have := (hI.baks (by omega)).flip i hi; omega
    have HF : Hid (turnF bakR ρ = flipF (rowsF bakR (flipF (rowsF bakR ρ)))) := rfl
    clear hb hn hin h hl hρ
    go_enter Try.func27, Try.ntmps27
    go_wp2_with (first
      | (go_at_call 49; refine HA.out.mono ?_; rintro e w1 ⟨rfl, hc1⟩)
      | (go_at_call 52; first | (have hx := hc3; refine (specBacks _ p3 q3 w3 i3 H2.out).mono ?_; rintro e w4 ⟨⟨v, rfl, hv⟩, hc⟩; have hc4 := hc3.trans (hc.mono hc3.size); obtain ⟨p4, q4, rfl, i4⟩ := owned_ints hv; clear hc hv) | (refine (specBacks ρ a cap w1 (HI.out w1 hc1) H1.out).mono ?_; rintro e w2 ⟨⟨v, rfl, hv⟩, hc⟩; have hc2 := hc1.trans (hc.mono hc1.size); obtain ⟨p2, q2, rfl, i2⟩ := owned_ints hv; clear hc hv))
      | (go_at_call 50; first | (have hx := hc4; refine (specFlip _ p4 q4 w4 i4).mono ?_; rintro e w5 ⟨⟨v, rfl, hv⟩, hc⟩; have hv5 := own_mono hv hc4.size; have hc5 := hc4.trans (hc.mono hc4.size); clear hc hv) | (refine (specFlip _ p2 q2 w2 i2).mono ?_; rintro e w3 ⟨⟨v, rfl, hv⟩, hc⟩; have hc3 := hc2.trans (hc.mono hc2.size); obtain ⟨p3, q3, rfl, i3⟩ := owned_ints hv; clear hc hv)))
    obtain ⟨gv, cv, rfl, hbv, hlv⟩ := hv5.form (by omega)
    clear hbv hlv
    have HG : Hid (In 1000000000 16 (flipF (rowsF bakR (flipF (rowsF bakR ρ))))) := fun i hi => by
      rw [← HF.out]
      have := (hI.back (by omega)) i hi
      omega
    have HL2 : Hid (backL xs = listF 16 (fun i => ((flipF (rowsF bakR (flipF (rowsF bakR ρ)))) i + 32) / 64)) := by rw [← HF.out]; exact HL
    rw [← downTo_none (flipF (rowsF bakR (flipF (rowsF bakR ρ)))) 16] at hv5
    clear HF HL HI H1 H2 i2 i3 i4 hc1 hc2 hc3 hc4 HA
    generalize flipF (rowsF bakR (flipF (rowsF bakR ρ))) = q at *
    generalize hs : w.heap.size = s at *
    go_loopw [4] (fun i wr => ∃ k : Nat, k ≤ 16 ∧ i = .int .i64 (k : Int) ∧ wr.ownsRow s 3 1 (.slice (some ⟨gv, 0, none⟩) 16 cv) 16 ((listF 16 (downTo q k)).map (Value.int .i64)) ∧ Below s w wr) (fun i _ => 16 - (intOf i).toNat)
    case atStart => exact ⟨0, by omega, rfl, hv5, hc5⟩
    case round =>
      obtain ⟨k, hk, rfl, hown, hb⟩ := hrel
      clear hv5 hc5
      by_cases hlt : k < 16
      · have l0 : (0 : Int) ≤ (k : Int) := by omega
        have l1 : (k : Int) < 16 := by omega
        have hcc := hown.cellAt k (by omega)
        rw [map_at _ hlt, downTo_at] at hcc
        have hfz := hown.frozenAt k
        have hst := hown.stored k (.int .i64 ((q k + 32) / 64))
        have hgs : s ≤ gv := own_base hown gv rfl
        have hbs := hb.grown hst.2 (by rw [← hs]; exact hb.size) (fun j hj => by cases hj; exact hgs)
        have hos := hst.1
        rw [downTo_set] at hos
        obtain ⟨y0, y1⟩ := HG.out k hlt
        generalize q k = x at *
        clear hst hown
        go_wp2_with (go_at_call 53; refine (specDown (x + 32) 64 _ (by omega) (by omega) (.inr rfl)).mono ?_; rintro e w6 ⟨rfl, hw⟩; subst w6)
        refine ⟨⟨k + 1, by omega, by go_num, hos, hbs⟩, ?_⟩
        simp [intOf]; omega
      · obtain rfl : k = 16 := by omega
        rw [downTo_full] at hown
        go_wp2
        go_ret
        rw [HL2.out, listF_length]
        exact ⟨⟨_, rfl, by rw [hs]; exact hown⟩, by rw [hs]; exact hb⟩
  | false =>
    have HL : Hid (backL xs = []) := by unfold backL; exact if_neg (by rw [hb]; decide)
    rw [hb] at HA
    clear hb h hl
    go_enter Try.func27, Try.ntmps27
    go_wp2_with (go_at_call 49; refine HA.out.mono ?_; rintro e w1 ⟨rfl, hc1⟩)
    go_ret
    rw [HL.out]
    exact ⟨⟨_, rfl, own_none w1 hc1.size⟩, hc1.alloc hc1.size _⟩
end Go.Proofs.Ytholbbfibmnicaa
