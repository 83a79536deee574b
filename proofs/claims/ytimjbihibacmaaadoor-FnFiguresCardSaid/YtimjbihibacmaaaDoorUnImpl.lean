/-
  The walk of impl.Unhex: it answers what the pairs of figures make, or refuses.
-/
import Derived.Test.YtimjbihibacmaaaDoorUnRel
namespace Go.Proofs.YtimjbihibacmaaaDoor.hx
open Go.RowKit
set_option linter.unusedVariables false
attribute [local go_sem ↓] Go.wp_at_zero Go.wp_at_succ

set_option maxHeartbeats 1000000 in
theorem implUnhex (s : ByteArray) (w : World) (hs : s.size ≤ 40000) (n : Nat) (hev : s.size = 2 * n) :
    Calls Tryd.prog 10 #[.string s] w fun e w' => e = .returned (unV s) ∧ Below w.heap.size w w' := by
  obtain ⟨i0, hi0, hz0, hz1, hz2⟩ := info_parts info5
  have HE : Hid (s.size = 2 * n) := hev
  have hd : (((s.size : Int) % 2) != 0) = false := by simp; omega
  clear hev
  go_enter Tryd.func10, Tryd.ntmps10
  go_wp2_with (at_make; refine wpList_make_own _ (by rfl) _ _ 22 (by rfl) w.heap.size 5 i0 (.int .u8 0) 1 Tryd.underlying22 hi0 hz0 hz1 .i64 .i64 _ (s.size / 2) (by rfl) (by rfl) (by omega) (by rw [hz2]; omega) (by unfold maxLen; omega) (Nat.le_refl _) ?_; intro w1 hown0 hgrow0)
  have hb0 : Below w.heap.size w w1 := (Below.refl _ _).grown hgrow0 (Nat.le_refl _) (fun j hj => by cases hj)
  clear hgrow0
  go_loopw [4, 5] (fun v i wr => ∃ k : Nat, 2 * k ≤ s.size ∧ i = .int .i64 (2 * k) ∧ (∀ j, j < k → goodAt s j) ∧ wr.ownsRow w.heap.size 5 1 v k ((unL s k).map (Value.int .u8)) ∧ Below w.heap.size w wr)
    (fun _ i _ => s.size - (intOf i).toNat)
  case atStart => exact ⟨0, Nat.zero_le _, rfl, fun j hj => by omega, hown0, hb0⟩
  case round =>
    obtain ⟨k, hk, rfl, hgd, hown, hb⟩ := hrel
    have HG : Hid (∀ j, j < k → goodAt s j) := hgd
    clear hgd hown0 hb0
    by_cases hlt : 2 * k < s.size
    · have hlt1 : 2 * k + 1 < s.size := by have := HE.out; omega
      have HX : Hid ((s[2 * k].toNat : Int) = byteAt s (2 * k)) := byteAt_eq s (2 * k) hlt
      have HY : Hid ((s[2 * k + 1].toNat : Int) = byteAt s (2 * k + 1)) := byteAt_eq s (2 * k + 1) hlt1
      have hx1 : (s[2 * k].toNat : Int) ≤ 255 := by have := UInt8.toNat_lt s[2 * k]; omega
      have hy1 : (s[2 * k + 1].toNat : Int) ≤ 255 := by have := UInt8.toNat_lt s[2 * k + 1]; omega
      have bx := valI_bd (s[2 * k].toNat : Int)
      have by' := valI_bd (s[2 * k + 1].toNat : Int)
      by_cases c1 : valI (s[2 * k].toNat : Int) < 0
      · have hfin := unV_bad s k hlt1 (fun g => by have := g.1; rw [← HX.out] at this; omega)
        have HF : Hid (unV s = .tuple #[.string ByteArray.empty, .bool false]) := hfin
        clear hfin
        go_wp2_with (go_at_call 20; refine (index_any _ _ (by omega) (by omega)).mono ?_; rintro e w' ⟨rfl, hw⟩; subst w')
        go_ret2
        exact ⟨by rw [HF.out]; rfl, hb⟩
      by_cases c2 : valI (s[2 * k + 1].toNat : Int) < 0
      · have hfin := unV_bad s k hlt1 (fun g => by have := g.2; rw [← HY.out] at this; omega)
        have HF : Hid (unV s = .tuple #[.string ByteArray.empty, .bool false]) := hfin
        clear hfin
        go_wp2_with (go_at_call 20; refine (index_any _ _ (by omega) (by omega)).mono ?_; rintro e w' ⟨rfl, hw⟩; subst w')
        go_ret2
        exact ⟨by rw [HF.out]; rfl, hb⟩
      · go_wp2_with (first
          | (go_at_call 20; refine (index_any _ _ (by omega) (by omega)).mono ?_; rintro e w' ⟨rfl, hw⟩; subst w')
          | (at_builtin; refine wpList_append_lies _ (by rfl) _ _ 22 (by rfl) w.heap.size 5 i0 (.int .u8 0) 1 1 Tryd.underlying22 hi0 hz0 hz1 hz2 rfl (by omega) u4 k _ (by rfl) (hown.alloc _) ⟨wr.heap.size, 0, none⟩ 1 1 [.int .u8 (16 * valI (s[2 * k].toNat : Int) + valI (s[2 * k + 1].toNat : Int))] (by rfl) (by rfl) (World.news_of_block (cs := #[.int .u8 (16 * valI (s[2 * k].toNat : Int) + valI (s[2 * k + 1].toNat : Int))]) (t := 5) (fr := (0, 0)) (heap_alloc_new wr _)) (by simp [Value.oneCell']) (by omega) (by unfold maxLen; omega) (by omega) (by have := hb.size; simp; omega) (wr.heap.size + 1) (by simp) ?_; intro gg cap w1 hown1 hgrow hat hlt2))
        have R := un_rel (s := s) (k := k) (by unfold pairAt; rw [← HX.out, ← HY.out]) hb hown hown1 hgrow
        have hgood : goodAt s k := ⟨by rw [← HX.out]; omega, by rw [← HY.out]; omega⟩
        go_roundw
        case rel => exact ⟨k + 1, by omega, by go_num, fun j hj => by rcases Nat.lt_succ_iff_lt_or_eq.1 hj with h | rfl; exact HG.out j h; exact hgood, R.1, R.2⟩
        case measure => simp [intOf]; omega
    · have hfin := unV_good s k (by omega) HG.out
      have hconv := conv_own hown
      go_wp2
      go_ret2
      exact ⟨by rw [hfin]; rfl, hb⟩
end Go.Proofs.YtimjbihibacmaaaDoor.hx
