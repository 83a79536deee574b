/-
  Marks in a list of numbers: the walks of laws.markIntS and laws.heldIntS.
-/
import Derived.Test.YtlejfkjanllgbaaIntKit
import Derived.Deep.AppendLies
namespace Go.Proofs.Ytlejfkjanllgbaa
open Go.RowKit
set_option linter.unusedVariables false
set_option maxRecDepth 20000

/-- n numbers from k on. -/
def marksI (k : Int) (n : Nat) : List Int := (List.range n).map (fun i : Nat => k + (i : Int))
theorem marksI_length (k : Int) (n : Nat) : (marksI k n).length = n := by simp [marksI]
theorem marksI_getD (k : Int) (n i : Nat) (h : i < n) : (marksI k n).getD i 0 = k + (i : Int) := by
  simp [marksI, List.getD_eq_getElem?_getD, h]
def mkUp (xs : List Int) (k : Int) (j i : Nat) : Int := if i < j then k + (i : Int) else xs.getD i 0
theorem mkUp_zero (xs : List Int) (k : Int) : (List.range xs.length).map (mkUp xs k 0) = xs := by
  apply List.ext_getElem
  · simp
  · intro i h1 h2; simp [mkUp, h2]
theorem mkUp_full (xs : List Int) (k : Int) (n : Nat) : (List.range n).map (mkUp xs k n) = marksI k n := by
  unfold marksI; apply List.map_congr_left; intro i hi; simp [mkUp, List.mem_range.1 hi]
theorem mkUp_set (xs : List Int) (k : Int) (n j : Nat) : (((List.range n).map (mkUp xs k j)).map (Value.int .i64)).set j (.int .i64 (k + (j : Int))) = ((List.range n).map (mkUp xs k (j + 1))).map (Value.int .i64) := by
  rw [List.map_map, List.map_map]
  have e : Value.int .i64 (k + (j : Int)) = (Value.int .i64 ∘ mkUp xs k (j + 1)) j := by simp [mkUp]
  rw [e]
  refine int_range_set n j _ _ (fun i hi => ?_)
  simp only [Function.comp, mkUp]
  by_cases h : i < j
  · simp [h, Nat.lt_succ_of_lt h]
  · simp [h, show ¬ i < j + 1 by omega]

set_option maxHeartbeats 800000 in
theorem markIntS_any (a : Option Addr) (c B : Nat) (xs : List Int) (k : Int) (w : World) (ho : w.ownsRow B 3 1 (.slice a xs.length c) xs.length (xs.map (Value.int .i64))) (hn : xs.length ≤ 2000000) (hk0 : 0 ≤ k) (hk1 : k ≤ 3000000) :
    Calls Try.prog 16 #[.slice a xs.length c, .int .i64 k] w fun e w' => e = .returned (.int .i64 (k + (xs.length : Int))) ∧ w'.ownsRow B 3 1 (.slice a xs.length c) xs.length ((marksI k xs.length).map (Value.int .i64)) ∧ w.grownBy w' (Value.slice a xs.length c).ownBlock := by
  rcases Nat.eq_zero_or_pos xs.length with h0 | hpos
  · have hx : xs = [] := List.eq_nil_of_length_eq_zero h0
    subst hx
    have HO : Hid (World.ownsRow _ _ _ _ _ _ _) := ho
    clear ho
    go_enter Try.func16, Try.ntmps16
    go_wp2
    refine wp_loop_rounds 1 ?_
    rw [rounds_succ]
    go_wp2
    go_ret
    exact ⟨by simp, HO.out, World.grownBy.refl _ _⟩
  · obtain ⟨g, cp, hv, _⟩ := ho.form hpos
    cases hv
    have ho0 : w.ownsRow B 3 1 (.slice (some ⟨g, 0, none⟩) xs.length c) xs.length (((List.range xs.length).map (mkUp xs k 0)).map (Value.int .i64)) := by rw [mkUp_zero]; exact ho
    clear ho hpos
    obtain ⟨n, HN⟩ : ∃ n, Hid (n = xs.length) := ⟨_, rfl⟩
    rw [← HN.out] at ho0 hn ⊢
    have hn' : (n : Int) ≤ 2000000 := by omega
    go_enter Try.func16, Try.ntmps16
    go_wp2
    go_loopw [1, 5] (fun v i wr => ∃ j : Nat, j ≤ n ∧ i = .int .i64 j ∧ v = .int .i64 (k + (j : Int)) ∧ wr.ownsRow B 3 1 (.slice (some ⟨g, 0, none⟩) n c) n (((List.range n).map (mkUp xs k j)).map (Value.int .i64)) ∧ w.grownBy wr (some g))
      (fun _ i _ => n - (intOf i).toNat)
    case atStart => exact ⟨0, Nat.zero_le _, rfl, by simp, ho0, World.grownBy.refl _ _⟩
    case round =>
      obtain ⟨j, hj, rfl, rfl, hown, hgr⟩ := hrel
      clear ho0
      by_cases hlt : j < n
      · have hq0 : (0 : Int) ≤ (j : Int) := by omega
        have hq : (j : Int) < (n : Int) := by omega
        have hcc := hown.cellAt j (by omega)
        have hfz := hown.frozenAt j
        have hc' : wr.cell? ⟨g, j, none⟩ = some (.int .i64 (mkUp xs k j j)) := by rw [hcc]; simp [hlt]
        have hst := hown.stored j (.int .i64 (k + (j : Int)))
        have hos := hst.1
        have hgr2 := hgr.trans hst.2
        rw [mkUp_set] at hos
        clear hcc hst hown hgr
        go_wp2
        go_roundw
        case rel => exact ⟨j + 1, by omega, by go_num, by go_num, hos, hgr2⟩
        case measure => simp [intOf]; omega
      · obtain rfl : j = n := by omega
        rw [mkUp_full] at hown
        go_wp2
        go_ret
        exact ⟨rfl, hown, hgr⟩

set_option maxHeartbeats 800000 in
theorem heldIntS_any (a : Option Addr) (n c : Nat) (k : Int) (w : World) (hi : Ints w a (marksI k n)) (hn : n ≤ 2000000) (hk0 : 0 ≤ k) (hk1 : k ≤ 1000000) :
    Calls Try.prog 17 #[.slice a n c, .int .i64 k] w fun e w' => e = .returned (.int .i64 (k + (n : Int))) ∧ w' = w := by
  have HI : Hid (Ints w a (marksI k n)) := hi
  have hn' : (n : Int) ≤ 2000000 := by omega
  clear hi
  go_enter Try.func17, Try.ntmps17
  go_wp2
  go_loopw [1, 5] (fun v i wr => ∃ j : Nat, j ≤ n ∧ i = .int .i64 j ∧ v = .int .i64 (k + (j : Int)) ∧ wr = w)
    (fun _ i _ => n - (intOf i).toNat)
  case atStart => exact ⟨0, Nat.zero_le _, rfl, by simp, rfl⟩
  case round =>
    obtain ⟨j, hj, rfl, rfl, rfl⟩ := hrel
    by_cases hlt : j < n
    · rcases HI.out with h | ⟨b, off, rfl, hg, hc⟩
      · have := marksI_length k n; rw [h] at this; simp at this; omega
      have d1 : wr.cell? ⟨b, off + j, none⟩ = some (.int .i64 (k + (j : Int))) := by rw [hc j (by rw [marksI_length]; exact hlt), marksI_getD k n j hlt]
      clear hc
      have hq0 : (0 : Int) ≤ (j : Int) := by omega
      have hq : (j : Int) < (n : Int) := by omega
      go_wp2
      go_roundw
      case rel => exact ⟨j + 1, by omega, by go_num, by go_num, trivial⟩
      case measure => simp [intOf]; omega
    · obtain rfl : j = n := by omega
      go_wp2
      go_ret
      exact ⟨rfl, rfl⟩

end Go.Proofs.Ytlejfkjanllgbaa
