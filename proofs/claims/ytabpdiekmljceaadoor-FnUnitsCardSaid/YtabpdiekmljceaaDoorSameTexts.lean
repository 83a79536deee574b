/-
  The walk of laws.sameTexts over rows of texts.
-/
import Derived.Test.YtabpdiekmljceaaDoorTextEq
namespace Go.Proofs.YtabpdiekmljceaaDoor
open Go.RowKit
set_option linter.unusedVariables false

set_option maxHeartbeats 800000 in
theorem sameTexts_any (v1 v2 : Value) (xs : List ByteArray) (w : World) (h1 : TextRow w v1 xs) (h2 : TextRow w v2 xs) (hx : xs.length ≤ 2000000) :
    Calls Tryd.prog 11 #[v1, v2] w fun e w' => e = .returned (.bool true) ∧ Below w.heap.size w w' := by
  rcases h1 with ⟨a1, c1, rfl, rfl⟩ | ⟨g1, c1, rfl, hg1, hc1⟩
  · rcases h2 with ⟨a2, c2, rfl, _⟩ | ⟨g2, c2, rfl, _, _⟩
    · go_enter Tryd.func11, Tryd.ntmps11
      go_wp2
      refine wp_loop_rounds 1 ?_
      rw [rounds_succ]
      go_wp2
      go_ret
      exact ⟨rfl, Below.refl _ _⟩
    · go_enter Tryd.func11, Tryd.ntmps11
      go_wp2
      refine wp_loop_rounds 1 ?_
      rw [rounds_succ]
      go_wp2
      go_ret
      exact ⟨rfl, Below.refl _ _⟩
  · rcases h2 with ⟨a2, c2, rfl, rfl⟩ | ⟨g2, c2, rfl, hg2, hc2⟩
    · go_enter Tryd.func11, Tryd.ntmps11
      go_wp2
      refine wp_loop_rounds 1 ?_
      rw [rounds_succ]
      go_wp2
      go_ret
      exact ⟨rfl, Below.refl _ _⟩
    · have H1 : Hid (∀ i, i < xs.length → w.cell? ⟨g1, i, none⟩ = some (.string (xs.getD i ByteArray.empty))) := hc1
      have H2 : Hid (∀ i, i < xs.length → w.cell? ⟨g2, i, none⟩ = some (.string (xs.getD i ByteArray.empty))) := hc2
      clear hc1 hc2
      go_enter Tryd.func11, Tryd.ntmps11
      go_wp2
      go_loopw [5] (fun i wr => ∃ k : Nat, k ≤ xs.length ∧ i = .int .i64 k ∧ Below w.heap.size w wr) (fun i _ => xs.length - (intOf i).toNat)
      case atStart => exact ⟨0, Nat.zero_le _, rfl, Below.refl _ _⟩
      case round =>
        obtain ⟨k, hk, rfl, hb⟩ := hrel
        by_cases hlt : k < xs.length
        · obtain ⟨x, hx⟩ : ∃ x, x = xs.getD k ByteArray.empty := ⟨_, rfl⟩
          have d1 : wr.cell? ⟨g1, k, none⟩ = some (.string x) := by rw [hx]; exact (hb.cell (p := ⟨g1, k, none⟩) hg1).trans (H1.out k hlt)
          have d2 : wr.cell? ⟨g2, k, none⟩ = some (.string x) := by rw [hx]; exact (hb.cell (p := ⟨g2, k, none⟩) hg2).trans (H2.out k hlt)
          clear hx
          have l0 : (0 : Int) ≤ (k : Int) := by omega
          have l1 : (k : Int) < (xs.length : Int) := by omega
          go_wp2_with fail
          go_quiet (fail)
          go_wp2
          go_roundw
          case rel => exact ⟨k + 1, by omega, by go_num, below_drewN hb _⟩
          case measure => simp [intOf]; omega
        · go_wp2
          go_ret
          exact ⟨rfl, hb⟩
end Go.Proofs.YtabpdiekmljceaaDoor
