/-
  spec.l11Runs, spec.RunsRow, spec.RunsSize.
-/
import Derived.Test.YtlejfkjanllgbaaGreatDoorRunMath
import Derived.Test.YtlejfkjanllgbaaGreatDoorCountTops
import Derived.Deep.RegionWith
namespace Go.Proofs.YtlejfkjanllgbaaGreatDoor
open Go.RowKit
set_option linter.unusedVariables false
set_option maxRecDepth 20000

theorem sizeS (l : List Int) : (strOfNums l).size = l.length := by simp [strOfNums, ByteArray.size]
theorem ueS_is (n : Int) : ueS n = strOfNums (ueL n) := rfl

set_option maxHeartbeats 1600000 in
theorem specRuns (a : Option Addr) (cap : Nat) (xs : List Int) (w : World) (h : Ints w a xs) (hl : xs.length ≤ 64) (hin : inB 5000 xs = true) :
    Calls Tryz.prog 53 #[.slice a xs.length cap] w fun e w' => e = .returned (.string (strOfNums (rowL (rnF xs xs.length)))) ∧ Below w.heap.size w w' := by
  have H : Hid (Ints w a xs) := h
  have HI : Hid (∀ k, k < xs.length → -5000 ≤ xs.getD k 0 ∧ xs.getD k 0 ≤ 5000) := inB_iff.1 hin
  have HR : Hid (∀ k, k ≤ xs.length → ∀ r ∈ rnF xs k, RunOk r) := rn_ok hin hl
  have n64 : (xs.length : Int) ≤ 64 := by omega
  clear h hin
  go_enter Tryz.func53, Tryz.ntmps53
  go_wp2
  go_loopw [3, 4, 5, 6] (fun n z o i wr => ∃ k : Nat, k ≤ xs.length ∧ n = .int .i64 ((rnF xs k).length : Int) ∧ z = .int .i64 (zrF xs k : Int) ∧ o = .string (strOfNums (bodyL (rnF xs k))) ∧ i = .int .i64 (k : Int) ∧ Below w.heap.size w wr) (fun _ _ _ i _ => xs.length - (intOf i).toNat)
  case atStart => exact ⟨0, Nat.zero_le _, rfl, rfl, rfl, rfl, Below.refl _ _⟩
  case round =>
    obtain ⟨k, hk, rfl, rfl, rfl, rfl, hb⟩ := hrel
    have l0 : (0 : Int) ≤ (k : Int) := by omega
    have hzn := zr_rn_le xs k
    by_cases hlt : k < xs.length
    · have l1 : (k : Int) < (xs.length : Int) := by omega
      have x0 := HI.out k hlt
      have HB := bodyL_len (HR.out k hk)
      rcases (H.out.below hb (Nat.le_refl _)) with h0 | ⟨b, off, rfl, hg, hc⟩
      · rw [h0] at hlt; cases hlt
      have d1 := hc k hlt
      clear hc
      by_cases hx : xs.getD k 0 = 0
      · have E1 : Hid (zrF xs (k + 1) = zrF xs k + 1) := zrF_nought hx
        have E2 : Hid (rnF xs (k + 1) = rnF xs k) := rnF_nought hx
        rw [hx] at d1
        clear hx x0
        have z0 : (0 : Int) ≤ (zrF xs k : Int) := by omega
        have z1 : (zrF xs k : Int) ≤ 64 := by omega
        go_wp2
        go_roundw
        case rel => exact ⟨k + 1, by omega, by rw [E2.out], by rw [E1.out]; go_num, by rw [E2.out], by go_num, hb⟩
        case measure => simp [intOf]; omega
      · have E1 : Hid (zrF xs (k + 1) = 0) := zrF_level hx
        have E2 : Hid (rnF xs (k + 1) = rnF xs k ++ [(zrF xs k, xs.getD k 0)]) := rnF_level hx
        obtain ⟨z, hz⟩ : ∃ z, zrF xs k = z := ⟨_, rfl⟩
        obtain ⟨x, hxx⟩ : ∃ x, xs.getD k 0 = x := ⟨_, rfl⟩
        rw [hxx] at hx d1 x0 E2
        rw [hz] at hzn E2 ⊢
        have z0 : (0 : Int) ≤ (z : Int) := by omega
        have z1 : (z : Int) ≤ 64 := by omega
        have s0 := seF_in x0
        have CU : Hid (∀ w', Calls Tryz.prog 72 #[.int .i64 (z : Int)] w' (fun e w'' => e = .returned (.string (ueS (z : Int))) ∧ Below w'.heap.size w' w'')) := fun w' => specUe (z : Int) w' z0 (by omega)
        have CS : Hid (∀ w', Calls Tryz.prog 73 #[.int .i64 x] w' (fun e w'' => e = .returned (.string (ueS (seF x))) ∧ Below w'.heap.size w' w'')) := fun w' => specSe x w' (by omega)
        have hu := (ueL_len (z : Int) z0 (by omega)).1
        have hu2 := (ueL_len (z : Int) z0 (by omega)).2.2
        have hs := (ueL_len (seF x) s0.1 (by omega)).1
        have hs2 := (ueL_len (seF x) s0.1 (by omega)).2.2
        have HS : Hid (strOfNums (bodyL (rnF xs k)) ++ ueS (z : Int) ++ ueS (seF x) = strOfNums (bodyL (rnF xs (k + 1)))) := by
          show _ = _
          rw [E2.out, bodyL_append, bodyL_one, ueS_is, ueS_is, strOfNums_app, strOfNums_app, List.append_assoc]
          rfl
        have HN : Hid ((rnF xs (k + 1)).length = (rnF xs k).length + 1) := by
          show _ = _
          rw [E2.out, List.length_append]
          rfl
        have q1 : (strOfNums (bodyL (rnF xs k))).size ≤ 5100 := by rw [sizeS]; omega
        have q2 : (ueS (z : Int)).size ≤ 40 := by rw [ueS_is, sizeS]; omega
        have q3 : (ueS (seF x)).size ≤ 40 := by rw [ueS_is, sizeS]; omega
        generalize strOfNums (bodyL (rnF xs k)) = T at *
        generalize ueS (z : Int) = U at *
        generalize ueS (seF x) = V at *
        have q4 : (T ++ U).size = T.size + U.size := by simp
        have c1 : ¬ 9223372036854775807 < T.size + U.size := by omega
        have c2 : ¬ 9223372036854775807 < (T ++ U).size + V.size := by omega
        have c3 : ¬ 9223372036854775807 < T.size + U.size + V.size := by omega
        have m0 : (0 : Int) ≤ ((rnF xs k).length : Int) := by omega
        have m1 : ((rnF xs k).length : Int) ≤ 64 := by omega
        generalize (rnF xs k).length = m at *
        have hq0 : Below wr.heap.size wr wr.drew := (Below.refl _ _).drew
        have HWR : Hid (Below w.heap.size w wr) := hb
        clear hz hxx hzn hu hu2 hs hs2 HB q1 q2 q3 q4 s0 x0 E2 hb
        go_wp2
        go_region_with (first
          | (go_at_call 72; refine (CU.out _).mono ?_; rintro e w1 ⟨rfl, hc1⟩; have hq1 : Below wr.heap.size wr w1 := (by first | exact hq2.trans (hc1.mono hq2.size) | exact hq0.trans (hc1.mono hq0.size)); have d2 := (hq1.cell (p := ⟨b, off + k, none⟩) hg).trans d1; clear hc1)
          | (go_at_call 73; refine (CS.out _).mono ?_; rintro e w2 ⟨rfl, hc2⟩; have hq2 : Below wr.heap.size wr w2 := (by first | exact hq1.trans (hc2.mono hq1.size) | exact hq0.trans (hc2.mono hq0.size)); clear hc2))
        all_goals
          have H3 : Hid (∀ w', Below wr.heap.size wr w' → Below w.heap.size w w') := fun w' h => HWR.out.trans (h.mono HWR.out.size)
          go_wp2
          go_roundw
          case rel => exact ⟨k + 1, by omega, by rw [HN.out]; go_num, by rw [E1.out]; go_num, by rw [← HS.out], by go_num, H3.out _ (by first | exact hq1 | exact hq2)⟩
          case measure => simp [intOf]; omega
    · obtain rfl : k = xs.length := by omega
      have HB := bodyL_len (HR.out xs.length (Nat.le_refl _))
      have hm : (rnF xs xs.length).length ≤ 64 := by omega
      have CU : Hid (∀ w', Calls Tryz.prog 72 #[.int .i64 ((rnF xs xs.length).length : Int)] w' (fun e w'' => e = .returned (.string (ueS ((rnF xs xs.length).length : Int))) ∧ Below w'.heap.size w' w'')) := fun w' => specUe _ w' (by omega) (by omega)
      have hu := (ueL_len ((rnF xs xs.length).length : Int) (by omega) (by omega)).1
      have hu2 := (ueL_len ((rnF xs xs.length).length : Int) (by omega) (by omega)).2.2
      have HS : Hid (ueS ((rnF xs xs.length).length : Int) ++ strOfNums (bodyL (rnF xs xs.length)) = strOfNums (rowL (rnF xs xs.length))) := by
        show _ = _
        rw [ueS_is, strOfNums_app]
        rfl
      have q1 : (strOfNums (bodyL (rnF xs xs.length))).size ≤ 5100 := by rw [sizeS]; omega
      have q2 : (ueS ((rnF xs xs.length).length : Int)).size ≤ 40 := by rw [ueS_is, sizeS]; omega
      generalize strOfNums (bodyL (rnF xs xs.length)) = T at *
      generalize ueS ((rnF xs xs.length).length : Int) = U at *
      have c1 : ¬ 9223372036854775807 < U.size + T.size := by omega
      clear q1 q2 hu hu2 HB
      go_wp2_with (go_at_call 72; refine (CU.out _).mono ?_; rintro e w1 ⟨rfl, hc1⟩)
      go_ret
      exact ⟨congrArg (fun t => Ending.returned (Value.string t)) HS.out, hb.trans (hc1.mono hb.size)⟩

theorem rnS_le (xs : List Int) : (rnS xs).size ≤ 5200 := by
  unfold rnS
  split
  · rename_i h
    obtain ⟨h1, h2⟩ := rnOk_of h
    have hl : xs.length ≤ 64 := by rcases h1 with h | h <;> omega
    have hb := bodyL_len (rn_ok h2 hl xs.length (Nat.le_refl _))
    have hz := zr_rn_le xs xs.length
    have hu := ueL_len ((rnF xs xs.length).length : Int) (by omega) (by omega)
    rw [sizeS]
    unfold rowL
    rw [List.length_append]
    omega
  · show (0 : Nat) ≤ 5200
    omega

end Go.Proofs.YtlejfkjanllgbaaGreatDoor
