/-
  The walks of impl.Eight, impl.EightBack, spec.Eight and spec.EightBack.
-/
import Derived.Test.YtlejfkjanllgbaaDoorEightTop
import Derived.Test.YtlejfkjanllgbaaDoorEightOf
import Derived.Test.YtlejfkjanllgbaaDoorEightSpec
import Derived.Test.YtlejfkjanllgbaaDoorIntAll
namespace Go.Proofs.YtlejfkjanllgbaaDoor
open Go.RowKit
set_option linter.unusedVariables false
set_option maxRecDepth 20000

/-- Turns of eight of a list of numbers; nothing of any other list. -/
def eightL (xs : List Int) : List Int := if (decide (xs.length = 64) && inB 1000 xs) = true then listF 64 (eightF (fun i => xs.getD i 0)) else []
def back8L (xs : List Int) : List Int := if (decide (xs.length = 64) && inB 10000000 xs) = true then listF 64 (fun i => (eightF (fun i => xs.getD i 0) i + 32) / 64) else []
theorem eightL_le (xs : List Int) : (eightL xs).length ≤ 64 := by
  unfold eightL
  split
  · rw [listF_length]; omega
  · simp
theorem back8L_le (xs : List Int) : (back8L xs).length ≤ 64 := by
  unfold back8L
  split
  · rw [listF_length]; omega
  · simp
theorem wi_of {M : Int} {n : Nat} {xs : List Int} (hl : xs.length = n) (h : inB M xs = true) : Wi M n (fun i => xs.getD i 0) := fun i hi => inB_iff.1 h i (by omega)
set_option maxHeartbeats 400000 in
theorem down8_any (n : Int) (w : World) (h0 : -10000000000 ≤ n) (h1 : n ≤ 10000000000) : Calls Tryd.prog 112 #[.int .i64 n] w fun e w' => e = .returned (.int .i64 ((n + 32) / 64)) ∧ w' = w := by
  go_enter Tryd.func112, Tryd.ntmps112
  go_wp2
  go_ret
  exact ⟨by simp, rfl⟩

set_option maxHeartbeats 1600000 in
theorem implEight (a : Option Addr) (cap : Nat) (xs : List Int) (w : World) (h : Ints w a xs) (hl : xs.length ≤ maxLen) (hcap : xs.length ≤ cap) :
    Calls Tryd.prog 84 #[.slice a xs.length cap] w fun e w' => (∃ v, e = .returned v ∧ w'.ownsRow w.heap.size 3 1 v (eightL xs).length ((eightL xs).map (Value.int .i64))) ∧ Below w.heap.size w w' := by
  cases hb : (decide (xs.length = 64) && inB 1000 xs) with
  | true =>
    obtain ⟨hn, hin⟩ : xs.length = 64 ∧ inB 1000 xs = true := by simpa using hb
    have HL : Hid (eightL xs = listF 64 (eightF (fun i => xs.getD i 0))) := by unfold eightL; exact if_pos hb
    have hI := wi_of hn hin
    have HC := eightOf_yes a cap xs 1000 w h hl (by omega) (by omega) hn hin (by omega)
    rw [hn] at HC ⊢
    obtain ⟨ρ, hρ⟩ : ∃ ρ : Nat → Int, (fun i => xs.getD i 0) = ρ := ⟨_, rfl⟩
    rw [hρ] at HL HC hI
    have HC' : Hid (Calls Tryd.prog 113 #[.slice a 64 cap, .int .i64 1000] w _) := HC
    have HT : Hid (∀ w', Calls Tryd.prog 114 #[.agg (arr 64 ρ)] w' (fun e w'' => e = .returned (.agg (arr 64 (eightF ρ))) ∧ Below w'.heap.size w' w'')) := fun w' => eightTurned ρ w' (fun i hi => by have := hI i hi; omega)
    clear hb hn hin h hl HC hρ hcap
    go_enter Tryd.func84, Tryd.ntmps84
    go_wp2_with (first
      | (go_at_call 113; refine HC'.out.mono ?_; rintro e w1 ⟨rfl, hc1⟩)
      | ((with_reducible refine at_store ?_); generalize hV : World.alloc w1 _ = V; have b0 : Blk V w1.heap.size (arr 64 (fun _ => 0)) 104 := (by rw [← hV]; exact Blk.new w1 _ _); have hb := (show Below w.heap.size w V by rw [← hV]; exact hc1.alloc hc1.size _); clear hV; refine store_arr rfl _ _ _ rfl w1.heap.size 0 rfl 64 ρ rfl (there_of_arr b0 0 64 (by omega)) size55 ?_; have b2 : Blk (V.setCells w1.heap.size 0 (arr 64 ρ).toList) w1.heap.size (arr 64 ρ) 104 := (arr_store (k := ρ) b0 0 64 (by omega) (fun i hi => by rw [Nat.zero_add]) (fun i hi h => by omega)); have hb2 := below_setCells (g := w1.heap.size) hc1.size (arr 64 ρ).toList 0 V hb; clear b0 hb; generalize World.setCells V w1.heap.size 0 (arr 64 ρ).toList = Z at *)
      | ((with_reducible refine at_load ?_); refine load_arr rfl _ _ rfl w1.heap.size 0 rfl 64 ρ (range_all b2) Tryd.underlying104 rfl size55 ?_; simp only [Act.put, List.setIfInBounds_toArray, List.set_cons_zero, List.set_cons_succ])
      | (go_at_call 114; refine (HT.out _).mono ?_; rintro e w2 ⟨rfl, hc2⟩)
      | (go_at_call 115; refine (eightList _ _).mono ?_; rintro e w3 ⟨⟨v, rfl, hv⟩, hc3⟩))
    go_ret
    rw [HL.out, listF_length]
    have h2 := hb2.trans (hc2.mono hb2.size)
    exact ⟨⟨_, rfl, own_mono hv h2.size⟩, h2.trans (hc3.mono h2.size)⟩
  | false =>
    have HL : Hid (eightL xs = []) := by unfold eightL; exact if_neg (by rw [hb]; decide)
    have HC' : Hid (Calls Tryd.prog 113 #[.slice a xs.length cap, .int .i64 1000] w _) := eightOf_no a cap xs 1000 w h hl (by omega) (by omega) hb
    clear hb h hl
    go_enter Tryd.func84, Tryd.ntmps84
    go_wp2_with (first
      | (go_at_call 113; refine HC'.out.mono ?_; rintro e w1 ⟨⟨ρ, rfl⟩, hc1⟩)
      | ((with_reducible refine at_store ?_); generalize hV : World.alloc w1 _ = V; have b0 : Blk V w1.heap.size (arr 64 (fun _ => 0)) 104 := (by rw [← hV]; exact Blk.new w1 _ _); have hb := (show Below w.heap.size w V by rw [← hV]; exact hc1.alloc hc1.size _); clear hV; refine store_arr rfl _ _ _ rfl w1.heap.size 0 rfl 64 ρ rfl (there_of_arr b0 0 64 (by omega)) size55 ?_; have b2 : Blk (V.setCells w1.heap.size 0 (arr 64 ρ).toList) w1.heap.size (arr 64 ρ) 104 := (arr_store (k := ρ) b0 0 64 (by omega) (fun i hi => by rw [Nat.zero_add]) (fun i hi h => by omega)); have hb2 := below_setCells (g := w1.heap.size) hc1.size (arr 64 ρ).toList 0 V hb; clear b0 hb; generalize World.setCells V w1.heap.size 0 (arr 64 ρ).toList = Z at *))
    go_ret
    rw [HL.out]
    exact ⟨⟨_, rfl, own_none Z hb2.size⟩, hb2.alloc hb2.size _⟩

set_option maxHeartbeats 1600000 in
theorem implEightBack (a : Option Addr) (cap : Nat) (xs : List Int) (w : World) (h : Ints w a xs) (hl : xs.length ≤ maxLen) (hcap : xs.length ≤ cap) :
    Calls Tryd.prog 87 #[.slice a xs.length cap] w fun e w' => (∃ v, e = .returned v ∧ w'.ownsRow w.heap.size 3 1 v (back8L xs).length ((back8L xs).map (Value.int .i64))) ∧ Below w.heap.size w w' := by
  cases hb : (decide (xs.length = 64) && inB 10000000 xs) with
  | true =>
    obtain ⟨hn, hin⟩ : xs.length = 64 ∧ inB 10000000 xs = true := by simpa using hb
    have HL : Hid (back8L xs = listF 64 (fun i => (eightF (fun i => xs.getD i 0) i + 32) / 64)) := by unfold back8L; exact if_pos hb
    have hI := wi_of hn hin
    have HC := eightOf_yes a cap xs 10000000 w h hl (by omega) (by omega) hn hin (by omega)
    rw [hn] at HC ⊢
    obtain ⟨ρ, hρ⟩ : ∃ ρ : Nat → Int, (fun i => xs.getD i 0) = ρ := ⟨_, rfl⟩
    rw [hρ] at HL HC hI
    have HC' : Hid (Calls Tryd.prog 113 #[.slice a 64 cap, .int .i64 10000000] w _) := HC
    have HT : Hid (∀ w', Calls Tryd.prog 114 #[.agg (arr 64 ρ)] w' (fun e w'' => e = .returned (.agg (arr 64 (eightF ρ))) ∧ Below w'.heap.size w' w'')) := fun w' => eightTurned ρ w' (fun i hi => by have := hI i hi; omega)
    clear hb hn hin h hl HC hρ hcap
    go_enter Tryd.func87, Tryd.ntmps87
    go_wp2_with (first
      | (go_at_call 113; refine HC'.out.mono ?_; rintro e w1 ⟨rfl, hc1⟩)
      | ((with_reducible refine at_store ?_); generalize hV : World.alloc w1 _ = V; have b0 : Blk V w1.heap.size (arr 64 (fun _ => 0)) 104 := (by rw [← hV]; exact Blk.new w1 _ _); have hb := (show Below w.heap.size w V by rw [← hV]; exact hc1.alloc hc1.size _); clear hV; refine store_arr rfl _ _ _ rfl w1.heap.size 0 rfl 64 ρ rfl (there_of_arr b0 0 64 (by omega)) size55 ?_; have b2 : Blk (V.setCells w1.heap.size 0 (arr 64 ρ).toList) w1.heap.size (arr 64 ρ) 104 := (arr_store (k := ρ) b0 0 64 (by omega) (fun i hi => by rw [Nat.zero_add]) (fun i hi h => by omega)); have hb2 := below_setCells (g := w1.heap.size) hc1.size (arr 64 ρ).toList 0 V hb; clear b0 hb; generalize World.setCells V w1.heap.size 0 (arr 64 ρ).toList = Z at *)
      | ((with_reducible refine at_load ?_); refine load_arr rfl _ _ rfl w1.heap.size 0 rfl 64 ρ (range_all b2) Tryd.underlying104 rfl size55 ?_; simp only [Act.put, List.setIfInBounds_toArray, List.set_cons_zero, List.set_cons_succ])
      | (go_at_call 114; refine (HT.out _).mono ?_; rintro e w2 ⟨rfl, hc2⟩)
      | (go_at_call 115; refine (eightList _ _).mono ?_; rintro e w3 ⟨⟨v, rfl, hv⟩, hc3⟩; obtain ⟨gv, cv, rfl, hbv, hlv⟩ := hv.form (by omega)))
    have h2 := hb2.trans (hc2.mono hb2.size)
    have h3 := h2.trans (hc3.mono h2.size)
    have hv2 := own_mono hv h2.size
    clear hv hbv hlv hc2 hc3 b2 HT
    have HG : Hid (Wi 1000000000 64 (eightF ρ)) := fun i hi => by have := crossF_bd (crossF_bd hI) i hi; show -1000000000 ≤ crossF (crossF ρ) i ∧ crossF (crossF ρ) i ≤ 1000000000; omega
    have hv3 := hv2
    rw [← downTo_none (eightF ρ) 64] at hv3
    clear hv2
    generalize eightF ρ = q at *
    generalize hs : w.heap.size = s at *
    go_loopw [18] (fun i wr => ∃ k : Nat, k ≤ 64 ∧ i = .int .i64 (k : Int) ∧ wr.ownsRow s 3 1 (.slice (some ⟨gv, 0, none⟩) 64 cv) 64 ((listF 64 (downTo q k)).map (Value.int .i64)) ∧ Below s w wr) (fun i _ => 64 - (intOf i).toNat)
    case atStart => exact ⟨0, by omega, rfl, hv3, h3⟩
    case round =>
      obtain ⟨k, hk, rfl, hown, hb⟩ := hrel
      clear hv3 h3
      by_cases hlt : k < 64
      · have l0 : (0 : Int) ≤ (k : Int) := by omega
        have l1 : (k : Int) < 64 := by omega
        have hcc := hown.cellAt k (by omega)
        rw [map_at _ hlt, downTo_at] at hcc
        have hfz := hown.frozenAt k
        have hst := hown.stored k (.int .i64 ((q k + 32) / 64))
        have hgs : s ≤ gv := own_base hown gv rfl
        have hbs := hb.grown hst.2 (by rw [← hs]; exact hb.size) (fun j hj => by cases hj; exact hgs)
        have hos := hst.1
        rw [downTo_set] at hos
        obtain ⟨y0, y1⟩ := HG.out k hlt
        generalize q k = x at *
        clear hst hown
        go_wp2_with (go_at_call 112; refine (down8_any _ _ (by omega) (by omega)).mono ?_; rintro e w5 ⟨rfl, hw⟩; subst w5)
        refine ⟨⟨k + 1, by omega, by go_num, hos, hbs⟩, ?_⟩
        simp [intOf]; omega
      · obtain rfl : k = 64 := by omega
        rw [downTo_full] at hown
        go_wp2
        go_ret
        rw [HL.out, listF_length]
        exact ⟨⟨_, rfl, by rw [hs]; exact hown⟩, by rw [hs]; exact hb⟩
  | false =>
    have HL : Hid (back8L xs = []) := by unfold back8L; exact if_neg (by rw [hb]; decide)
    have HC' : Hid (Calls Tryd.prog 113 #[.slice a xs.length cap, .int .i64 10000000] w _) := eightOf_no a cap xs 10000000 w h hl (by omega) (by omega) hb
    clear hb h hl
    go_enter Tryd.func87, Tryd.ntmps87
    go_wp2_with (first
      | (go_at_call 113; refine HC'.out.mono ?_; rintro e w1 ⟨⟨ρ, rfl⟩, hc1⟩)
      | ((with_reducible refine at_store ?_); generalize hV : World.alloc w1 _ = V; have b0 : Blk V w1.heap.size (arr 64 (fun _ => 0)) 104 := (by rw [← hV]; exact Blk.new w1 _ _); have hb := (show Below w.heap.size w V by rw [← hV]; exact hc1.alloc hc1.size _); clear hV; refine store_arr rfl _ _ _ rfl w1.heap.size 0 rfl 64 ρ rfl (there_of_arr b0 0 64 (by omega)) size55 ?_; have b2 : Blk (V.setCells w1.heap.size 0 (arr 64 ρ).toList) w1.heap.size (arr 64 ρ) 104 := (arr_store (k := ρ) b0 0 64 (by omega) (fun i hi => by rw [Nat.zero_add]) (fun i hi h => by omega)); have hb2 := below_setCells (g := w1.heap.size) hc1.size (arr 64 ρ).toList 0 V hb; clear b0 hb; generalize World.setCells V w1.heap.size 0 (arr 64 ρ).toList = Z at *))
    go_ret
    rw [HL.out]
    exact ⟨⟨_, rfl, own_none Z hb2.size⟩, hb2.alloc hb2.size _⟩

set_option maxHeartbeats 1600000 in
theorem specEight (a : Option Addr) (cap : Nat) (xs : List Int) (w : World) (h : Ints w a xs) (hl : xs.length ≤ maxLen) :
    Calls Tryd.prog 36 #[.slice a xs.length cap] w fun e w' => (∃ v, e = .returned v ∧ w'.ownsRow w.heap.size 3 1 v (eightL xs).length ((eightL xs).map (Value.int .i64))) ∧ Below w.heap.size w w' := by
  have HA : Hid (Calls Tryd.prog 34 #[.slice a xs.length cap, .int .i64 64, .int .i64 1000] w _) := specAll a cap 64 xs 1000 w h hl (by omega) (by omega)
  cases hb : (decide (xs.length = 64) && inB 1000 xs) with
  | true =>
    obtain ⟨hn, hin⟩ : xs.length = 64 ∧ inB 1000 xs = true := by simpa using hb
    have HL : Hid (eightL xs = listF 64 (eightF (fun i => xs.getD i 0))) := by unfold eightL; exact if_pos hb
    have hI := wi_of hn hin
    have HI : Hid (∀ w', Below w.heap.size w w' → Ints w' a (listF 64 (fun i => xs.getD i 0))) := fun w' hb => by
      rw [← hn, listF_self]
      exact h.below hb (Nat.le_refl _)
    rw [hb, hn] at HA
    rw [hn]
    obtain ⟨ρ, hρ⟩ : ∃ ρ : Nat → Int, (fun i => xs.getD i 0) = ρ := ⟨_, rfl⟩
    rw [hρ] at HL HI hI
    have H1 : Hid (∀ i, i < 64 → -12500000 ≤ ρ i ∧ ρ i ≤ 12500000) := fun i hi => by have := hI i hi; omega
    clear hb hn hin h hl hρ
    go_enter Tryd.func36, Tryd.ntmps36
    go_wp2_with (first
      | (go_at_call 34; refine HA.out.mono ?_; rintro e w1 ⟨rfl, hc1⟩)
      | (go_at_call 62; refine (specSums ρ a cap w1 (HI.out w1 hc1) H1.out).mono ?_; rintro e w5 ⟨⟨v, rfl, hv⟩, hc⟩; have hv5 := own_mono hv hc1.size; have hc5 := hc1.trans (hc.mono hc1.size); clear hc hv))
    go_ret
    rw [HL.out, listF_length]
    exact ⟨⟨_, rfl, hv5⟩, hc5⟩
  | false =>
    have HL : Hid (eightL xs = []) := by unfold eightL; exact if_neg (by rw [hb]; decide)
    rw [hb] at HA
    clear hb h hl
    go_enter Tryd.func36, Tryd.ntmps36
    go_wp2_with (go_at_call 34; refine HA.out.mono ?_; rintro e w1 ⟨rfl, hc1⟩)
    go_ret
    rw [HL.out]
    exact ⟨⟨_, rfl, own_none w1 hc1.size⟩, hc1.alloc hc1.size _⟩

set_option maxHeartbeats 1600000 in
theorem specEightBack (a : Option Addr) (cap : Nat) (xs : List Int) (w : World) (h : Ints w a xs) (hl : xs.length ≤ maxLen) :
    Calls Tryd.prog 43 #[.slice a xs.length cap] w fun e w' => (∃ v, e = .returned v ∧ w'.ownsRow w.heap.size 3 1 v (back8L xs).length ((back8L xs).map (Value.int .i64))) ∧ Below w.heap.size w w' := by
  have HA : Hid (Calls Tryd.prog 34 #[.slice a xs.length cap, .int .i64 64, .int .i64 10000000] w _) := specAll a cap 64 xs 10000000 w h hl (by omega) (by omega)
  cases hb : (decide (xs.length = 64) && inB 10000000 xs) with
  | true =>
    obtain ⟨hn, hin⟩ : xs.length = 64 ∧ inB 10000000 xs = true := by simpa using hb
    have HL : Hid (back8L xs = listF 64 (fun i => (eightF (fun i => xs.getD i 0) i + 32) / 64)) := by unfold back8L; exact if_pos hb
    have hI := wi_of hn hin
    have HI : Hid (∀ w', Below w.heap.size w w' → Ints w' a (listF 64 (fun i => xs.getD i 0))) := fun w' hb => by
      rw [← hn, listF_self]
      exact h.below hb (Nat.le_refl _)
    rw [hb, hn] at HA
    rw [hn]
    obtain ⟨ρ, hρ⟩ : ∃ ρ : Nat → Int, (fun i => xs.getD i 0) = ρ := ⟨_, rfl⟩
    rw [hρ] at HL HI hI
    have H1 : Hid (∀ i, i < 64 → -12500000 ≤ ρ i ∧ ρ i ≤ 12500000) := fun i hi => by have := hI i hi; omega
    clear hb hn hin h hl hρ
    go_enter Tryd.func43, Tryd.ntmps43
    go_wp2_with (first
      | (go_at_call 34; refine HA.out.mono ?_; rintro e w1 ⟨rfl, hc1⟩)
      | (go_at_call 62; refine (specSums ρ a cap w1 (HI.out w1 hc1) H1.out).mono ?_; rintro e w5 ⟨⟨v, rfl, hv⟩, hc⟩; have hv5 := own_mono hv hc1.size; have hc5 := hc1.trans (hc.mono hc1.size); clear hc hv; obtain ⟨gv, cv, rfl, hbv, hlv⟩ := hv5.form (by omega)))
    have HG : Hid (Wi 1000000000 64 (eightF ρ)) := fun i hi => by have := crossF_bd (crossF_bd hI) i hi; show -1000000000 ≤ crossF (crossF ρ) i ∧ crossF (crossF ρ) i ≤ 1000000000; omega
    rw [← downTo_none (eightF ρ) 64] at hv5
    clear HI H1 HA hbv hlv hI
    generalize eightF ρ = q at *
    generalize hs : w.heap.size = s at *
    go_loopw [4] (fun i wr => ∃ k : Nat, k ≤ 64 ∧ i = .int .i64 (k : Int) ∧ wr.ownsRow s 3 1 (.slice (some ⟨gv, 0, none⟩) 64 cv) 64 ((listF 64 (downTo q k)).map (Value.int .i64)) ∧ Below s w wr) (fun i _ => 64 - (intOf i).toNat)
    case atStart => exact ⟨0, by omega, rfl, hv5, hc5⟩
    case round =>
      obtain ⟨k, hk, rfl, hown, hb⟩ := hrel
      clear hv5 hc5
      by_cases hlt : k < 64
      · have l0 : (0 : Int) ≤ (k : Int) := by omega
        have l1 : (k : Int) < 64 := by omega
        have hcc := hown.cellAt k (by omega)
        rw [map_at _ hlt, downTo_at] at hcc
        have hfz := hown.frozenAt k
        have hst := hown.stored k (.int .i64 ((q k + 32) / 64))
        have hgs : s ≤ gv := own_base hown gv rfl
        have hbs := hb.grown hst.2 (by rw [← hs]; exact hb.size) (fun j hj => by cases hj; exact hgs)
        have hos := hst.1
        rw [downTo_set] at hos
        obtain ⟨y0, y1⟩ := HG.out k hlt
        generalize q k = x at *
        clear hst hown
        go_wp2_with (go_at_call 69; refine (specDown (x + 32) 64 _ (by omega) (by omega) (.inr rfl)).mono ?_; rintro e w6 ⟨rfl, hw⟩; subst w6)
        refine ⟨⟨k + 1, by omega, by go_num, hos, hbs⟩, ?_⟩
        simp [intOf]; omega
      · obtain rfl : k = 64 := by omega
        rw [downTo_full] at hown
        go_wp2
        go_ret
        rw [HL.out, listF_length]
        exact ⟨⟨_, rfl, by rw [hs]; exact hown⟩, by rw [hs]; exact hb⟩
  | false =>
    have HL : Hid (back8L xs = []) := by unfold back8L; exact if_neg (by rw [hb]; decide)
    rw [hb] at HA
    clear hb h hl
    go_enter Tryd.func43, Tryd.ntmps43
    go_wp2_with (go_at_call 34; refine HA.out.mono ?_; rintro e w1 ⟨rfl, hc1⟩)
    go_ret
    rw [HL.out]
    exact ⟨⟨_, rfl, own_none w1 hc1.size⟩, hc1.alloc hc1.size _⟩
end Go.Proofs.YtlejfkjanllgbaaDoor
