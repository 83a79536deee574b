/-
  The parts of guesses: the walks of impl.flatLine, impl.sumOfDots, impl.lineBeside, impl.middleOf and the modes' methods.
-/
import Derived.Test.YtkakiollhhmmaaaEdgeOkKit
import Derived.Test.YtkakiollhhmmaaaSqRun
import Derived.Test.YtkakiollhhmmaaaDotKit
import Derived.Laws.Cover3
import Derived.Deep.RegionWith
namespace Go.Proofs.Ytkakiollhhmmaaa
open Go.RowKit
set_option linter.unusedVariables false
set_option maxRecDepth 20000

theorem size8 : (Try.prog.info? 65).map (·.size) = some 8 := by kernel_rfl
theorem agg3G (w : World) : (isAgg 3).run Try.prog w = .ok false w := by kernel_rfl
theorem size3G : (Try.prog.info? 3).map (·.size) = some 1 := by kernel_rfl

/-- The first k dots are laid. -/
def flatTo (d : Int) (k i : Nat) : Int := if i < k then d else 0
theorem flatTo_none (d : Int) : arr 8 (flatTo d 0) = arr 8 (fun _ => 0) := arr_congr fun i hi => by unfold flatTo; rw [if_neg (by omega)]
theorem flatTo_full (d : Int) : arr 8 (flatTo d 8) = arr 8 (fun _ => d) := arr_congr fun i hi => by unfold flatTo; rw [if_pos hi]
theorem flatTo_hit (d : Int) (k : Nat) : flatTo d (k + 1) k = d := by unfold flatTo; rw [if_pos (by omega)]
theorem flatTo_not (d : Int) (k : Nat) : ∀ i, i ≠ k → flatTo d (k + 1) i = flatTo d k i := fun i hi => by
  unfold flatTo
  by_cases h : i < k
  · rw [if_pos h, if_pos (by omega)]
  · rw [if_neg h, if_neg (by omega)]

set_option maxHeartbeats 1600000 in
theorem flat_any (d : Int) (w : World) :
    Calls Try.prog 54 #[.int .i64 d] w fun e w' => e = .returned (.agg (arr 8 (fun _ => d))) ∧ Below w.heap.size w w' := by
  go_enter Try.func54, Try.ntmps54
  go_wp2_with fail
  generalize hW : World.alloc (World.alloc w _) _ = W
  have B1 : Blk W w.heap.size (arr 8 (fun _ => 0)) 65 := by rw [← hW]; exact (Blk.new w _ _).alloc _
  have B2 : Blk W (w.heap.size + 1) (arr 8 (fun _ => 0)) 65 := by rw [← hW]; exact Blk.new' _ _ (by simp)
  have hb0 : Below w.heap.size w W := by rw [← hW]; exact ((Below.refl _ _).alloc (Nat.le_refl _) _).alloc (by simp) _
  clear hW
  generalize hs : w.heap.size = s at *
  go_loopw [5] (fun i wr => ∃ k : Nat, k ≤ 8 ∧ i = .int .i64 (k : Int) ∧ Blk wr s (arr 8 (fun _ => 0)) 65 ∧ Blk wr (s + 1) (arr 8 (flatTo d k)) 65 ∧ Below s w wr) (fun i _ => 8 - (intOf i).toNat)
  case atStart => exact ⟨0, by omega, rfl, B1, by rw [flatTo_none]; exact B2, hb0⟩
  case round =>
    obtain ⟨k, hk, rfl, b1, b2, hb⟩ := hrel
    clear B1 B2 hb0
    by_cases hlt : k < 8
    · have l0 : (0 : Int) ≤ (k : Int) := by omega
      have l1 : (k : Int) < 8 := by omega
      have hce : wr.cell? ⟨s + 1, k, none⟩ = some (.int .i64 (flatTo d k k)) := by rw [b2.cell, arr_get _ (by omega)]
      have hfz : wr.frozen? ⟨s + 1, k, none⟩ = false := b2.frozen _
      have z2 := b2.set k (.int .i64 d) (by rw [arr_size]; omega)
      rw [arr_set (g := flatTo d (k + 1)) d (flatTo_hit d k) (flatTo_not d k)] at z2
      have z1 := b1.other ⟨s + 1, k, none⟩ (.int .i64 d) (by simp)
      have zb := hb.setCell (p := ⟨s + 1, k, none⟩) (by simp) (.int .i64 d)
      generalize flatTo d k k = y at *
      go_wp2
      refine ⟨⟨k + 1, by omega, by go_num, z1, z2, zb⟩, ?_⟩
      simp [intOf]; omega
    · obtain rfl : k = 8 := by omega
      rw [flatTo_full] at b2
      have HZ : Hid (Blk (wr.setCells s 0 (arr 8 (fun _ => d)).toList) s (arr 8 (fun _ => d)) 65) := arr_store (k := fun _ => d) b1 0 8 (by omega) (fun i hi => rfl) (fun i hi h => by omega)
      have hbb := below_setCells (g := s) (Nat.le_refl _) (arr 8 (fun _ => d)).toList 0 wr hb
      have rg := range_all b2
      have th := there_of_arr b1 0 8 (by omega)
      clear b1 b2 hb hlt hk
      go_wp2_with (first
        | ((with_reducible refine at_load ?_); refine load_arr rfl _ _ rfl (s + 1) 0 rfl 8 (fun _ => d) rg Try.underlying65 rfl size8 ?_; simp only [Act.put, List.setIfInBounds_toArray, List.set_cons_zero, List.set_cons_succ])
        | ((with_reducible refine at_store ?_); refine store_arr rfl _ _ _ rfl s 0 rfl 8 (fun _ => d) rfl th size8 ?_; clear th rg; generalize World.setCells wr s 0 (arr 8 (fun _ => d)).toList = wz at *))
      refine bodyPost_ret (results_cell_row rfl _ _ s 65 _ (0, 0) _ rfl HZ.out Try.underlying65 rfl (by rw [arr_size]; exact size8)) rfl ?_
      exact ⟨rfl, by rw [hs]; exact hbb⟩

set_option maxHeartbeats 800000 in
theorem sumOf_any (a : Option Addr) (cap : Nat) (xs : List Int) (w : World) (h : Ints w a xs) (hl : xs.length ≤ 8) (hd : dotsB xs = true) :
    Calls Try.prog 55 #[.slice a xs.length cap] w fun e w' => e = .returned (.int .i64 (dotSum xs xs.length)) ∧ Below w.heap.size w w' := by
  have H : Hid (Ints w a xs) := h
  have HD : Hid (∀ i, i < xs.length → 0 ≤ xs.getD i 0 ∧ xs.getD i 0 ≤ 255) := dotsB_iff.1 hd
  have HK : Hid (∀ k, k ≤ xs.length → 0 ≤ dotSum xs k ∧ dotSum xs k ≤ 255 * (k : Int)) := sumN_bd hd
  have HS : Hid (∀ k, k < xs.length → dotSum xs (k + 1) = dotSum xs k + xs.getD k 0) := sumN_succ xs
  clear h hd
  go_enter Try.func55, Try.ntmps55
  go_wp2
  go_loopw [3, 8] (fun u i wr => ∃ k : Nat, k ≤ xs.length ∧ i = .int .i64 (k : Int) ∧ u = .int .i64 (dotSum xs k) ∧ Below w.heap.size w wr) (fun _ i _ => xs.length - (intOf i).toNat)
  case atStart => exact ⟨0, Nat.zero_le _, rfl, rfl, Below.refl _ _⟩
  case round =>
    obtain ⟨k, hk, rfl, rfl, hb⟩ := hrel
    by_cases hlt : k < xs.length
    · rcases (H.out.below hb (Nat.le_refl _)) with h0 | ⟨b, off, rfl, hg, hc⟩
      · rw [h0] at hlt; simp at hlt
      have d1 := hc k hlt
      obtain ⟨x0, x1⟩ := HD.out k hlt
      obtain ⟨s0, s1⟩ := HK.out k hk
      have HS' : Hid (dotSum xs (k + 1) = dotSum xs k + xs.getD k 0) := HS.out k hlt
      clear hc
      have l0 : (0 : Int) ≤ (k : Int) := by omega
      have l1 : (k : Int) < (xs.length : Int) := by omega
      generalize dotSum xs k = u at *
      generalize xs.getD k 0 = x at *
      go_wp2
      go_roundw
      case rel => exact ⟨k + 1, by omega, by go_num, by rw [HS'.out], hb⟩
      case measure => simp [intOf]; omega
    · obtain rfl : k = xs.length := by omega
      go_wp2
      go_ret
      exact ⟨rfl, hb⟩

theorem range_of_ints {w : World} {b off : Nat} {xs : List Int} (hc : ∀ i, i < xs.length → w.cell? ⟨b, off + i, none⟩ = some (.int .i64 (xs.getD i 0))) (h8 : xs.length = 8) : w.rangeAt b off (arr 8 (fillF xs)).toList := by
  intro j v hv
  have hj : j < 8 := by
    have := (List.getElem?_eq_some_iff.1 hv).1
    simpa [arr] using this
  have e : (arr 8 (fillF xs)).toList[j]? = some (.int .i64 (fillF xs j)) := by rw [Array.getElem?_toList]; exact arr_get _ hj
  rw [e] at hv
  obtain rfl := Option.some.inj hv
  have e2 : fillF xs j = xs.getD j 0 := by unfold fillF; rw [if_neg (by omega)]
  rw [e2]
  exact hc j (by omega)

set_option maxHeartbeats 1600000 in
theorem beside_any (a : Option Addr) (cap : Nat) (xs : List Int) (w : World) (h : Ints w a xs) (he : edgeB xs = true) :
    Calls Try.prog 45 #[.slice a xs.length cap] w fun e w' => e = .returned (.agg (arr 8 (fillF xs))) ∧ Below w.heap.size w w' := by
  rcases (edgeB_iff.1 he).1 with h0 | h8
  · obtain rfl := List.eq_nil_of_length_eq_zero h0
    have HE : Hid (arr 8 (fillF []) = arr 8 (fun _ => 128)) := arr_congr fun i hi => rfl
    clear h he h0
    go_enter Try.func45, Try.ntmps45
    go_wp2_with fail
    have B1 : Blk (w.alloc (.cells (arr 8 (fun _ => 0)) 65)) w.heap.size (arr 8 (fun _ => 0)) 65 := Blk.new w _ _
    have hb0 : Below w.heap.size w (w.alloc (.cells (arr 8 (fun _ => 0)) 65)) := (Below.refl _ _).alloc (Nat.le_refl _) _
    change Calls _ _ _ (w.alloc (.cells (arr 8 (fun _ => 0)) 65)) _
    generalize w.alloc (.cells (arr 8 (fun _ => 0)) 65) = W at *
    generalize hs : w.heap.size = s at *
    refine (flat_any 128 W).mono ?_
    rintro e w1 ⟨rfl, hc⟩
    have b1 := B1.below hc B1.lt
    have hb := hb0.trans (hc.mono (by rw [← hs]; exact hb0.size))
    have HZ : Hid (Blk (w1.setCells s 0 (arr 8 (fun _ => 128)).toList) s (arr 8 (fun _ => 128)) 65) := arr_store (k := fun _ => 128) b1 0 8 (by omega) (fun i hi => rfl) (fun i hi h => by omega)
    have hbb := below_setCells (g := s) (Nat.le_refl _) (arr 8 (fun _ => 128)).toList 0 w1 hb
    have th := there_of_arr b1 0 8 (by omega)
    clear b1 hb hc B1 hb0
    go_wp2_with ((with_reducible refine at_store ?_); refine store_arr rfl _ _ _ rfl s 0 rfl 8 (fun _ => 128) rfl th size8 ?_; clear th; generalize World.setCells w1 s 0 (arr 8 (fun _ => 128)).toList = wz at *)
    refine bodyPost_ret (results_cell_row rfl _ _ s 65 _ (0, 0) _ rfl HZ.out Try.underlying65 rfl (by rw [arr_size]; exact size8)) rfl ?_
    exact ⟨by rw [HE.out], by rw [hs]; exact hbb⟩
  · rcases h with h0 | ⟨b, off, rfl, hg, hc⟩
    · rw [h0] at h8; simp at h8
    have HR : Hid (w.rangeAt b off (arr 8 (fillF xs)).toList) := range_of_ints hc h8
    rw [h8]
    clear hc he
    obtain ⟨ρ, hρ⟩ : ∃ ρ, ρ = fillF xs := ⟨_, rfl⟩
    rw [← hρ] at HR ⊢
    clear hρ h8
    have hat : ∀ w', (Instr.arrayAt 65 (.slice (some ⟨b, off, none⟩) 8 cap)).run Try.prog w' = .ok (.pointer (some ⟨b, off, none⟩)) w' := fun w' => run_arrayAt w' 65 3 8 (some ⟨b, off, none⟩) 8 cap Try.underlying65 (Nat.le_refl _)
    have HT : Hid (∀ W, Below w.heap.size w W → W.rangeAt b off (arr 8 ρ).toList) := fun W hb j v hv => (hb.cell (p := ⟨b, off + j, none⟩) hg).trans (HR.out j v hv)
    generalize hs : w.heap.size = s at *
    have hbA : Below s w (w.alloc (.cells (arr 8 (fun _ => 0)) 65)) := by rw [← hs]; exact (Below.refl _ _).alloc (Nat.le_refl _) _
    have B1 : Blk (w.alloc (.cells (arr 8 (fun _ => 0)) 65)) s (arr 8 (fun _ => 0)) 65 := by rw [← hs]; exact Blk.new w _ _
    go_enter Try.func45, Try.ntmps45
    go_wp2_with (first
      | ((with_reducible refine at_load ?_); generalize hW : World.alloc w _ = W; have b1 : Blk W s (arr 8 (fun _ => 0)) 65 := (by rw [← hW]; exact B1); have hb : Below s w W := (by rw [← hW]; exact hbA); clear B1 hbA hW; refine load_arr rfl _ _ rfl b off rfl 8 ρ (HT.out W hb) Try.underlying65 rfl size8 ?_; simp only [Act.put, List.setIfInBounds_toArray, List.set_cons_zero, List.set_cons_succ])
      | ((with_reducible refine at_store ?_); refine store_arr rfl _ _ _ rfl s 0 rfl 8 ρ rfl (there_of_arr b1 0 8 (by omega)) size8 ?_; have HZ : Hid (Blk (W.setCells s 0 (arr 8 ρ).toList) s (arr 8 ρ) 65) := (arr_store (k := ρ) b1 0 8 (by omega) (fun i hi => by rw [Nat.zero_add]) (fun i hi h => by omega)); have hbb := (below_setCells (g := s) (Nat.le_refl _) (arr 8 ρ).toList 0 W hb); clear b1 hb; generalize World.setCells W s 0 (arr 8 ρ).toList = wz at *))
    refine bodyPost_ret (results_cell_row rfl _ _ s 65 _ (0, 0) _ rfl HZ.out Try.underlying65 rfl (by rw [arr_size]; exact size8)) rfl ?_
    exact ⟨rfl, hbb⟩

theorem mid_wrap {s t h q : Int} (s0 : 0 ≤ s) (s1 : s ≤ 2040) (t0 : 0 ≤ t) (t1 : t ≤ 2040) (h0 : 0 ≤ h) (h1 : h ≤ 8) (hq : q = 8 ∨ q = 16) : IntKind.i64.wrap ((IntKind.i64.wrap (IntKind.i64.wrap (s + t) + IntKind.i64.wrap h)).tdiv q) = (s + t + h) / q := by
  rw [IntWalk.i64_in (s + t) ⟨by omega, by omega⟩, IntWalk.i64_in h ⟨by omega, by omega⟩, IntWalk.i64_in (s + t + h) ⟨by omega, by omega⟩, Int.tdiv_eq_ediv_of_nonneg (by omega)]
  rcases hq with rfl | rfl
  · exact IntWalk.i64_in _ ⟨by omega, by omega⟩
  · exact IntWalk.i64_in _ ⟨by omega, by omega⟩

set_option maxHeartbeats 1600000 in
theorem middle_any (a1 a2 : Option Addr) (c1 c2 : Nat) (xs ys : List Int) (c : Int) (w : World) (h1 : Ints w a1 xs) (h2 : Ints w a2 ys) (hx : edgeB xs = true) (hy : edgeB ys = true) :
    Calls Try.prog 46 #[edgV a1 xs.length c1 a2 ys.length c2 c] w fun e w' => e = .returned (.int .i64 (midF xs ys)) ∧ Below w.heap.size w w' := by
  obtain ⟨x1, x2⟩ := edgeB_iff.1 hx
  obtain ⟨y1, y2⟩ := edgeB_iff.1 hy
  have HX : Hid (∀ w', Below w.heap.size w w' → Calls Try.prog 55 #[.slice a1 xs.length c1] w' fun e w'' => e = .returned (.int .i64 (dotSum xs xs.length)) ∧ Below w'.heap.size w' w'') := fun w' hb => sumOf_any a1 c1 xs w' (h1.below hb (Nat.le_refl _)) (by omega) x2
  have HY : Hid (∀ w', Below w.heap.size w w' → Calls Try.prog 55 #[.slice a2 ys.length c2] w' fun e w'' => e = .returned (.int .i64 (dotSum ys ys.length)) ∧ Below w'.heap.size w' w'') := fun w' hb => sumOf_any a2 c2 ys w' (h2.below hb (Nat.le_refl _)) (by omega) y2
  obtain ⟨p0, p1⟩ := sumN_bd x2 xs.length (Nat.le_refl _)
  obtain ⟨q0, q1⟩ := sumN_bd y2 ys.length (Nat.le_refl _)
  have HM : Hid (midF xs ys = if xs.length + ys.length = 0 then 128 else (dotSum xs xs.length + dotSum ys ys.length + ((xs.length + ys.length : Nat) : Int) / 2) / ((xs.length + ys.length : Nat) : Int)) := rfl
  generalize midF xs ys = R at *
  generalize dotSum xs xs.length = s at *
  generalize dotSum ys ys.length = t at *
  clear h1 h2 hx hy x2 y2
  generalize xs.length = n at *
  generalize ys.length = m at *
  have p2 : s ≤ 2040 := by omega
  have q2 : t ≤ 2040 := by omega
  clear p1 q1
  have B0 := Blk.new w #[.slice a1 n c1, .slice a2 m c2, .int .i64 c] 26
  have hb0 := (Below.refl w.heap.size w).alloc (Nat.le_refl _) (.cells #[.slice a1 n c1, .slice a2 m c2, .int .i64 c] 26)
  have HB : Hid (∀ w', Below (World.alloc w (.cells #[.slice a1 n c1, .slice a2 m c2, .int .i64 c] 26)).heap.size (World.alloc w (.cells #[.slice a1 n c1, .slice a2 m c2, .int .i64 c] 26)) w' → w'.cell? ⟨w.heap.size, 0, none⟩ = some (.slice a1 n c1) ∧ w'.cell? ⟨w.heap.size, 1, none⟩ = some (.slice a2 m c2)) := fun w' h => by
    obtain ⟨⟨x0, x1, _⟩, _⟩ := (B0.below h B0.lt).three
    exact ⟨x0, x1⟩
  clear B0
  rcases x1 with rfl | rfl
  · rcases y1 with rfl | rfl
    · have HV : Hid (R = 128) := HM.out
      clear HX HY
      go_enter Try.func46, Try.ntmps46
      go_wp2
      go_ret
      exact ⟨by rw [HV.out]; rfl, hb0⟩
    · have HV : Hid (R = (s + t + 4) / 8) := HM.out
      clear HM
      go_enter Try.func46, Try.ntmps46
      go_wp2_with fail
      generalize World.alloc w _ = W at *
      have K0 := HB.out W (Below.refl _ _)
      go_region_held3 (fun w' => w'.cell? ⟨w.heap.size, 0, none⟩ = some (.slice a1 0 c1) ∧ w'.cell? ⟨w.heap.size, 1, none⟩ = some (.slice a2 8 c2))
        (first | go_keep | exact HB.out _ hc7 | exact HB.out _ (hc7.trans (hc8.mono hc7.size)))
        (first
          | (go_at_call_of 55 (Value.slice a1 0 c1); refine (HX.out _ hb0.drew).mono ?_; rintro e w7 ⟨rfl, hr7⟩; have hc7 : Below W.heap.size W w7 := (Below.refl W.heap.size W).drew.trans hr7; clear hr7)
          | (go_at_call_of 55 (Value.slice a2 8 c2); refine (HY.out _ (hb0.trans (hc7.mono hb0.size))).mono ?_; rintro e w8 ⟨rfl, hc8⟩))
      have hb8 : Below w.heap.size w w8 := (hb0.trans (hc7.mono hb0.size)).trans (hc8.mono (Nat.le_trans hb0.size hc7.size))
      clear hc7 hc8 HB K0 hb0
      go_wp2
      go_ret
      exact ⟨by rw [HV.out]; simp; exact mid_wrap p0 p2 q0 q2 (by omega) (by omega) (by omega), hb8⟩
  · rcases y1 with rfl | rfl
    · have HV : Hid (R = (s + t + 4) / 8) := HM.out
      clear HM
      go_enter Try.func46, Try.ntmps46
      go_wp2_with fail
      generalize World.alloc w _ = W at *
      have K0 := HB.out W (Below.refl _ _)
      go_region_held3 (fun w' => w'.cell? ⟨w.heap.size, 0, none⟩ = some (.slice a1 8 c1) ∧ w'.cell? ⟨w.heap.size, 1, none⟩ = some (.slice a2 0 c2))
        (first | go_keep | exact HB.out _ hc7 | exact HB.out _ (hc7.trans (hc8.mono hc7.size)))
        (first
          | (go_at_call_of 55 (Value.slice a1 8 c1); refine (HX.out _ hb0.drew).mono ?_; rintro e w7 ⟨rfl, hr7⟩; have hc7 : Below W.heap.size W w7 := (Below.refl W.heap.size W).drew.trans hr7; clear hr7)
          | (go_at_call_of 55 (Value.slice a2 0 c2); refine (HY.out _ (hb0.trans (hc7.mono hb0.size))).mono ?_; rintro e w8 ⟨rfl, hc8⟩))
      have hb8 : Below w.heap.size w w8 := (hb0.trans (hc7.mono hb0.size)).trans (hc8.mono (Nat.le_trans hb0.size hc7.size))
      clear hc7 hc8 HB K0 hb0
      go_wp2
      go_ret
      exact ⟨by rw [HV.out]; simp; exact mid_wrap p0 p2 q0 q2 (by omega) (by omega) (by omega), hb8⟩
    · have HV : Hid (R = (s + t + 8) / 16) := HM.out
      clear HM
      go_enter Try.func46, Try.ntmps46
      go_wp2_with fail
      generalize World.alloc w _ = W at *
      have K0 := HB.out W (Below.refl _ _)
      go_region_held3 (fun w' => w'.cell? ⟨w.heap.size, 0, none⟩ = some (.slice a1 8 c1) ∧ w'.cell? ⟨w.heap.size, 1, none⟩ = some (.slice a2 8 c2))
        (first | go_keep | exact HB.out _ hc7 | exact HB.out _ (hc7.trans (hc8.mono hc7.size)))
        (first
          | (go_at_call_of 55 (Value.slice a1 8 c1); refine (HX.out _ hb0.drew).mono ?_; rintro e w7 ⟨rfl, hr7⟩; have hc7 : Below W.heap.size W w7 := (Below.refl W.heap.size W).drew.trans hr7; clear hr7)
          | (go_at_call_of 55 (Value.slice a2 8 c2); refine (HY.out _ (hb0.trans (hc7.mono hb0.size))).mono ?_; rintro e w8 ⟨rfl, hc8⟩))
      have hb8 : Below w.heap.size w w8 := (hb0.trans (hc7.mono hb0.size)).trans (hc8.mono (Nat.le_trans hb0.size hc7.size))
      clear hc7 hc8 HB K0 hb0
      go_wp2
      go_ret
      exact ⟨by rw [HV.out]; simp; exact mid_wrap p0 p2 q0 q2 (by omega) (by omega) (by omega), hb8⟩
end Go.Proofs.Ytkakiollhhmmaaa
