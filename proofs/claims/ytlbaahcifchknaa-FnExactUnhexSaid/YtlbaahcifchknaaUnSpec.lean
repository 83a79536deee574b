/-
  The walk of spec.Unhex: it answers what the pairs of figures make, or refuses.
-/
import Derived.Test.YtlbaahcifchknaaUnWalks
namespace Go.Proofs.Ytlbaahcifchknaa
open Go.RowKit
attribute [local go_sem ↓] Go.wp_at_zero Go.wp_at_succ

theorem un_rel {w wr w1 : World} {s : ByteArray} {k g cap : Nat} {u4 : Value} {x : Int} (hx : x = pairAt s k) (hb : Below w.heap.size w wr) (hown : wr.ownsRow w.heap.size 5 1 u4 k ((unL s k).map (Value.int .u8)))
    (hown1 : w1.ownsRow w.heap.size 5 1 (.slice (some ⟨g, 0, none⟩) (k + 1) cap) (k + 1) ((unL s k).map (Value.int .u8) ++ [.int .u8 x]))
    (hgrow : (wr.alloc (.cells #[.int .u8 x] 5)).grownBy w1 u4.ownBlock) :
    w1.ownsRow w.heap.size 5 1 (.slice (some ⟨g, 0, none⟩) (k + 1) cap) (k + 1) ((unL s (k + 1)).map (Value.int .u8)) ∧ Below w.heap.size w w1 := by
  refine ⟨?_, ?_⟩
  · rw [unL_succ, List.map_append, ← hx]
    exact hown1
  · exact (hb.alloc hb.size _).grown hgrow (by have := hb.size; simp; omega) (fun j hj => (hown.lt j hj).1)

set_option maxHeartbeats 1000000 in
theorem specUnhex (s : ByteArray) (w : World) (hs : s.size ≤ 40000) (n : Nat) (hev : s.size = 2 * n) :
    Calls Try.prog 9 #[.string s] w fun e w' => e = .returned (unV s) ∧ Below w.heap.size w w' := by
  obtain ⟨i0, hi0, hz0, hz1, hz2⟩ := info_parts info5
  have HE : Hid (s.size = 2 * n) := hev
  have hd : (((s.size : Int) % 2) != 0) = false := by simp; omega
  clear hev
  go_enter Try.func9, Try.ntmps9
  go_wp2
  go_loopw [4, 5] (fun v i wr => ∃ k : Nat, 2 * k ≤ s.size ∧ i = .int .i64 (2 * k) ∧ (∀ j, j < k → goodAt s j) ∧ wr.ownsRow w.heap.size 5 1 v k ((unL s k).map (Value.int .u8)) ∧ Below w.heap.size w wr)
    (fun _ i _ => s.size - (intOf i).toNat)
  case atStart => exact ⟨0, Nat.zero_le _, rfl, fun j hj => by omega, World.ownsRow_made w #[] 0 (Nat.le_refl _) (by unfold maxLen; omega) rfl, (Below.refl _ _).alloc (Nat.le_refl _) _⟩
  case round =>
    obtain ⟨k, hk, rfl, hgd, hown, hb⟩ := hrel
    have HG : Hid (∀ j, j < k → goodAt s j) := hgd
    clear hgd
    by_cases hlt : 2 * k < s.size
    · have hlt1 : 2 * k + 1 < s.size := by have := HE.out; omega
      have HX : Hid ((s[2 * k].toNat : Int) = byteAt s (2 * k)) := byteAt_eq s (2 * k) hlt
      have HY : Hid ((s[2 * k + 1].toNat : Int) = byteAt s (2 * k + 1)) := byteAt_eq s (2 * k + 1) hlt1
      have hx1 : (s[2 * k].toNat : Int) ≤ 255 := by have := UInt8.toNat_lt s[2 * k]; omega
      have hy1 : (s[2 * k + 1].toNat : Int) ≤ 255 := by have := UInt8.toNat_lt s[2 * k + 1]; omega
      have bx := valI_bd (s[2 * k].toNat : Int)
      have by' := valI_bd (s[2 * k + 1].toNat : Int)
      by_cases c1 : valI (s[2 * k].toNat : Int) < 0
      · have hfin := unV_bad s k hlt1 (fun g => by have := g.1; rw [← HX.out] at this; omega)
        have HF : Hid (unV s = .tuple #[.string ByteArray.empty, .bool false]) := hfin
        clear hfin
        go_wp2_with (go_at_call 19; refine (value_any _ _ (by omega) (by omega)).mono ?_; rintro e w' ⟨rfl, hw⟩; subst w')
        go_ret2
        exact ⟨by rw [HF.out]; rfl, hb⟩
      by_cases c2 : valI (s[2 * k + 1].toNat : Int) < 0
      · have hfin := unV_bad s k hlt1 (fun g => by have := g.2; rw [← HY.out] at this; omega)
        have HF : Hid (unV s = .tuple #[.string ByteArray.empty, .bool false]) := hfin
        clear hfin
        go_wp2_with (go_at_call 19; refine (value_any _ _ (by omega) (by omega)).mono ?_; rintro e w' ⟨rfl, hw⟩; subst w')
        go_ret2
        exact ⟨by rw [HF.out]; rfl, hb⟩
      · go_wp2_with (first
          | (go_at_call 19; refine (value_any _ _ (by omega) (by omega)).mono ?_; rintro e w' ⟨rfl, hw⟩; subst w')
          | (at_builtin; refine wpList_append_lies _ (by rfl) _ _ 32 (by rfl) w.heap.size 5 i0 (.int .u8 0) 1 1 Try.underlying32 hi0 hz0 hz1 hz2 rfl (by omega) u4 k _ (by rfl) (hown.alloc _) ⟨wr.heap.size, 0, none⟩ 1 1 [.int .u8 (16 * valI (s[2 * k].toNat : Int) + valI (s[2 * k + 1].toNat : Int))] (by rfl) (by rfl) (World.news_of_block (cs := #[.int .u8 (16 * valI (s[2 * k].toNat : Int) + valI (s[2 * k + 1].toNat : Int))]) (t := 5) (fr := (0, 0)) (heap_alloc_new wr _)) (by simp [Value.oneCell']) (by omega) (by unfold maxLen; omega) (by omega) (by have := hb.size; simp; omega) (wr.heap.size + 1) (by simp) ?_; intro gg cap w1 hown1 hgrow hat hlt2))
        have R := un_rel (s := s) (k := k) (by unfold pairAt; rw [← HX.out, ← HY.out]) hb hown hown1 hgrow
        have hgood : goodAt s k := ⟨by rw [← HX.out]; omega, by rw [← HY.out]; omega⟩
        go_roundw
        case rel => exact ⟨k + 1, by omega, by go_num, fun j hj => by rcases Nat.lt_succ_iff_lt_or_eq.1 hj with h | rfl; exact HG.out j h; exact hgood, R.1, R.2⟩
        case measure => simp [intOf]; omega
    · have hfin := unV_good s k (by omega) HG.out
      have hconv := conv_own hown
      go_wp2
      go_ret2
      exact ⟨by rw [hfin]; rfl, hb⟩
end Go.Proofs.Ytlbaahcifchknaa
