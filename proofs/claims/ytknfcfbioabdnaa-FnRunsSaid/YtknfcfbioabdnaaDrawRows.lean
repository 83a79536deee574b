/-
  The walks of spec.l02Signs and spec.DrawRow: a drawn row has as many signs as are told, each 0 or 1.
-/
import Derived.Test.YtknfcfbioabdnaaDrawOwn
namespace Go.Proofs.Ytknfcfbioabdnaa
open Go.RowKit
set_option linter.unusedVariables false
set_option maxRecDepth 20000

set_option maxHeartbeats 800000 in
theorem signs_any (g : Nat) (a : Option Addr) (len B n : Nat) (w : World) (hc : CodeRow w B a len) (hB : B ≤ g) (hcur : CurAt w g a len) (hn : n ≤ 1000000) :
    Calls Try.prog 39 #[.pointer (some ⟨g, 0, none⟩), .int .i64 n] w fun e w' => ∃ l : List Int, e = .returned (.string (strOfNums l)) ∧ l.length = n ∧ (∀ x ∈ l, x = 48 ∨ x = 49) ∧ CurKept w w' g a len := by
  obtain ⟨i0, hi0, hz0, hz1, hz2⟩ := info_parts infoB
  have hgw := hcur.lt
  go_enter Try.func39, Try.ntmps39
  go_wp2
  go_loopw [5, 6] (fun v i wr => ∃ (k : Nat) (l : List Int), k ≤ n ∧ i = .int .i64 k ∧ l.length = k ∧ (∀ x ∈ l, x = 48 ∨ x = 49) ∧ wr.ownsRow w.heap.size 5 1 v k (l.map (Value.int .u8)) ∧ CurAt wr g a len ∧ w.grownBy wr (some g))
    (fun _ i _ => n - (intOf i).toNat)
  case atStart => exact ⟨0, [], Nat.zero_le _, rfl, rfl, (fun x hx => by cases hx), World.ownsRow_made w #[] 0 (Nat.le_refl _) (by unfold maxLen; omega) rfl, hcur.kept (World.grownBy_alloc w _ none) (by simp), World.grownBy_alloc w _ _⟩
  case round =>
    obtain ⟨k, l, hk, rfl, hll, hls, hown, hcr, hgr⟩ := hrel
    have HL : Hid (l.length = k) := hll
    have HS : Hid (∀ x ∈ l, x = 48 ∨ x = 49) := hls
    clear hll hls
    by_cases hlt : k < n
    · have hcr' : CodeRow wr B a len := hc.below (below_of_grown hgr (by omega) (fun j hj => by cases hj; exact hB))
      have hBr : B ≤ wr.heap.size := by have := hgr.size; omega
      go_wp2_with (first
        | (go_at_call 34; refine (below_any g a len B 2 _ hcr' hB hcr (by omega) (by omega)).mono ?_; rintro e w1 ⟨x, rfl, hx0, hx1, hkp⟩; have hown' := own_cur hown hgw hkp; have hsz1 := hkp.2.size; have hsz0 := hgr.size)
        | (at_builtin; refine wpList_append_lies _ (by rfl) _ _ 22 (by rfl) w.heap.size 5 i0 (.int .u8 0) 1 1 Try.underlying22 hi0 hz0 hz1 hz2 rfl (by omega) u5 k _ (by rfl) (hown'.alloc _) ⟨w1.heap.size, 0, none⟩ 1 1 [.int .u8 (48 + x)] (by rfl) (by rfl) (World.news_of_block (cs := #[.int .u8 (48 + x)]) (t := 5) (fr := (0, 0)) (heap_alloc_new w1 _)) (by simp [Value.oneCell']) (by omega) (by unfold maxLen; omega) (by omega) (by simp; omega) (w1.heap.size + 1) (by simp) ?_; intro gg cp w2 hown2 hgrow hat hlt2))
      have R := cur_append (v' := u5) (ys := []) (m := 0) hgr hown hgw hkp hgrow
      have hown3 : w2.ownsRow w.heap.size 5 1 (.slice (some ⟨gg, 0, none⟩) (k + 1) cp) (k + 1) ((l ++ [48 + x]).map (Value.int .u8)) := by simpa using hown2
      clear hown2 hgrow hat hlt2 hown hown' hcr hcr' hkp
      go_roundw
      case rel => exact ⟨k + 1, l ++ [48 + x], by omega, by go_num, by have := HL.out; simp; omega, fun y hy => by
        rcases List.mem_append.1 hy with h | h
        · exact HS.out y h
        · simp at h; subst h; omega, hown3, R.1, R.2⟩
      case measure => simp [intOf]; omega
    · obtain rfl : k = n := by omega
      have hconv := convD hown
      go_wp2
      go_ret
      exact ⟨l, rfl, HL.out, HS.out, hcr, hgr⟩

set_option maxHeartbeats 800000 in
theorem drawRow_any (a : Option Addr) (len cap B : Nat) (w : World) (hc : CodeRow w B a len) (hB : B ≤ w.heap.size) :
    Calls Try.prog 18 #[.slice a len cap] w fun e w' => ∃ l : List Int, e = .returned (.string (strOfNums l)) ∧ l.length ≤ 60 ∧ (∀ x ∈ l, x = 48 ∨ x = 49) ∧ Below w.heap.size w w' := by
  go_enter Try.func18, Try.ntmps18
  go_wp2_with fail
  refine (new_cur a len cap B _ hc hB).mono ?_
  rintro e w1 ⟨rfl, hcur, hb1⟩
  have hc1 := hc.below (hb1.mono hB)
  go_wp2_with fail
  refine (below_any _ a len B 61 _ hc1 hB hcur (by omega) (by omega)).mono ?_
  rintro e w2 ⟨x, rfl, hx0, hx1, hk⟩
  obtain ⟨n, rfl⟩ := Int.eq_ofNat_of_zero_le hx0
  have hs1 := hb1.size
  have hc2 := hk.code hc1 hB (by omega)
  go_wp2_with fail
  refine (signs_any _ a len B n _ hc2 hB hk.1 (by omega)).mono ?_
  rintro e w3 ⟨l, rfl, hl, hs, hk3⟩
  go_wp2
  go_ret
  exact ⟨l, rfl, by omega, hs, (hb1.trans (below_of_grown hk.2 hs1 (fun j hj => by cases hj; exact Nat.le_refl _))).trans (below_of_grown hk3.2 (Nat.le_trans hs1 hk.2.size) (fun j hj => by cases hj; exact Nat.le_refl _))⟩
end Go.Proofs.Ytknfcfbioabdnaa
