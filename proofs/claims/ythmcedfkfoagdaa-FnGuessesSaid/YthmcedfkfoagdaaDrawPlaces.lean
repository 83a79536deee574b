/-
  The walk of spec.DrawPlaces: twelve numbers of 0 to 9999, in memory of its own.
-/
import Derived.Test.YthmcedfkfoagdaaDrawOwn
namespace Go.Proofs.Ythmcedfkfoagdaa
open Go.RowKit
set_option linter.unusedVariables false
set_option maxRecDepth 20000

theorem infoP : (Try.prog.info? 3).map (fun i => (i.zero, i.size, i.bytes)) = some (some (.int .i64 0), 1, 8) := by kernel_rfl

set_option maxHeartbeats 800000 in
theorem drawPlaces_any (a : Option Addr) (len cap B : Nat) (w : World) (hc : CodeRow w B a len) (hB : B ≤ w.heap.size) :
    Calls Try.prog 12 #[.slice a len cap] w fun e w' => ∃ (g c : Nat) (l : List Int), e = .returned (.slice (some ⟨g, 0, none⟩) 12 c) ∧ l.length = 12 ∧ (∀ x ∈ l, 0 ≤ x ∧ x < 10000) ∧ w'.ownsRow w.heap.size 3 1 (.slice (some ⟨g, 0, none⟩) 12 c) 12 (l.map (Value.int .i64)) ∧ Below w.heap.size w w' := by
  obtain ⟨i0, hi0, hz0, hz1, hz2⟩ := info_parts infoP
  go_enter Try.func12, Try.ntmps12
  go_wp2_with fail
  refine (new_cur a len cap B _ hc hB).mono ?_
  rintro e w1 ⟨rfl, hcur1, hb1⟩
  have hc1 := hc.below (hb1.mono hB)
  go_wp2_with fail
  refine (byte_any _ a len B _ hc1 hB hcur1).mono ?_
  rintro e w2 ⟨x, rfl, hx0, hx1, hk2⟩
  have hs1 := hb1.size
  have hc2 := CurKept.code hk2 hc1 hB (by omega)
  have hb2 : Below w.heap.size w w2 := hb1.trans (below_of_grown hk2.2 hs1 (fun j hj => by cases hj; exact Nat.le_refl _))
  have hcur2 := hk2.1
  clear hk2 hc1 hcur1 hb1
  have hgw := hcur2.lt
  have hs2 := hb2.size
  go_wp2
  go_loopw [4, 5] (fun v i wr => ∃ (k : Nat) (l : List Int), k ≤ 12 ∧ i = .int .i64 k ∧ l.length = k ∧ (∀ x ∈ l, 0 ≤ x ∧ x < 10000) ∧ wr.ownsRow w2.heap.size 3 1 v k (l.map (Value.int .i64)) ∧ CurAt wr w.heap.size a len ∧ w2.grownBy wr (some w.heap.size))
    (fun _ i _ => 12 - (intOf i).toNat)
  case atStart => exact ⟨0, [], Nat.zero_le _, rfl, rfl, (fun x hx => by cases hx), World.ownsRow_made w2 #[] 0 (Nat.le_refl _) (by unfold maxLen; omega) rfl, hcur2.kept (World.grownBy_alloc w2 _ none) (by simp), World.grownBy_alloc w2 _ _⟩
  case round =>
    obtain ⟨k, l, hk, rfl, hll, hls, hown, hcr, hgr⟩ := hrel
    have HL : Hid (l.length = k) := hll
    have HS : Hid (∀ x ∈ l, 0 ≤ x ∧ x < 10000) := hls
    clear hll hls
    by_cases hlt : k < 12
    · have hcr' : CodeRow wr B a len := hc2.below (below_of_grown hgr (by omega) (fun j hj => by cases hj; exact hB))
      have hBr : B ≤ wr.heap.size := by have := hgr.size; omega
      go_wp2_with (first
        | (go_at_call 39; refine (below_any w.heap.size a len B 10000 _ hcr' hB hcr (by omega) (by omega)).mono ?_; rintro e w3 ⟨y, rfl, hy0, hy1, hkp⟩; have hown' := own_cur hown hgw hkp; have hsz1 := hkp.2.size; have hsz0 := hgr.size)
        | (at_builtin; refine wpList_append_lies _ (by rfl) _ _ 24 (by rfl) w2.heap.size 3 i0 (.int .i64 0) 1 8 Try.underlying24 hi0 hz0 hz1 hz2 rfl (by omega) u4 k _ (by rfl) (hown'.alloc _) ⟨w3.heap.size, 0, none⟩ 1 1 [.int .i64 y] (by rfl) (by rfl) (World.news_of_block (cs := #[.int .i64 y]) (t := 3) (fr := (0, 0)) (heap_alloc_new w3 _)) (by simp [Value.oneCell']) (by omega) (by unfold maxLen; omega) (by omega) (by simp; omega) (w3.heap.size + 1) (by simp) ?_; intro gg cp w4 hown2 hgrow hat hlt2))
      have R := cur_append (v' := u4) (ys := []) (m := 0) hgr hown hgw hkp hgrow
      have hown3 : w4.ownsRow w2.heap.size 3 1 (.slice (some ⟨gg, 0, none⟩) (k + 1) cp) (k + 1) ((l ++ [y]).map (Value.int .i64)) := by simpa using hown2
      clear hown2 hgrow hat hlt2 hown hown' hcr hcr' hkp
      go_roundw
      case rel => exact ⟨k + 1, l ++ [y], by omega, by go_num, by have := HL.out; simp; omega, fun z hz => by
        rcases List.mem_append.1 hz with h | h
        · exact HS.out z h
        · simp at h; subst h; exact ⟨hy0, hy1⟩, hown3, R.1, R.2⟩
      case measure => simp [intOf]; omega
    · obtain rfl : k = 12 := by omega
      obtain ⟨gv, cv, rfl, hbv, hlv⟩ := hown.form (by omega)
      go_wp2
      go_ret
      refine ⟨gv, cv, l, rfl, HL.out, HS.out, ⟨hown.1, ?_⟩, hb2.trans (below_of_grown hgr hs2 (fun j hj => by cases hj; exact Nat.le_refl _))⟩
      rcases hown.2 with ⟨h, _⟩ | ⟨g', c', cur, h1, h2, h3⟩
      · cases h
      · exact .inr ⟨g', c', cur, h1, Nat.le_trans hs2 h2, h3⟩
end Go.Proofs.Ythmcedfkfoagdaa
