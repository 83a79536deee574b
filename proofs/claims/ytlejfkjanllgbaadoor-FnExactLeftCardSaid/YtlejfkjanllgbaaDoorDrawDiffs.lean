/-
  The walk of spec.DrawDiffs: drawn numbers within a bound, of both signs, in memory of their own.
-/
import Derived.Test.YtlejfkjanllgbaaDoorDrawOwn
namespace Go.Proofs.YtlejfkjanllgbaaDoor
open Go.RowKit
set_option linter.unusedVariables false
set_option maxRecDepth 20000

theorem infoD : (Tryd.prog.info? 3).map (fun i => (i.zero, i.size, i.bytes)) = some (some (.int .i64 0), 1, 8) := by kernel_rfl
set_option maxHeartbeats 400000 in
theorem onceD (g : Nat) (a : Option Addr) (len B : Nat) (n : Int) (w : World) (hc : CodeRow w B a len) (hB : B ≤ g) (hcur : CurAt w g a len) (h1 : 1 ≤ n) (h2 : n ≤ 4294967296) :
    Calls Tryd.prog 24 #[.pointer (some ⟨g, 0, none⟩), .int .i64 n] w fun e w' => ∃ b : Bool, e = .returned (.bool b) ∧ CurKept w w' g a len := by
  go_enter Tryd.func24, Tryd.ntmps24
  go_wp2_with (go_at_call 25; refine (below_any g a len B n _ hc hB hcur h1 h2).mono ?_; rintro e w1 ⟨x, rfl, hx0, hx1, hk⟩)
  go_ret
  exact ⟨_, rfl, hk⟩
set_option maxHeartbeats 400000 in
theorem broughtD (x l m : Int) (w : World) (h1 : l ≤ x) (h2 : x ≤ m) : Calls Tryd.prog 26 #[.int .i64 x, .int .i64 l, .int .i64 m] w fun e w' => e = .returned (.int .i64 x) ∧ w' = w := by
  go_enter Tryd.func26, Tryd.ntmps26
  go_wp2
  go_ret
  exact ⟨rfl, rfl⟩

set_option maxHeartbeats 1600000 in
theorem drawDiffs_any (a : Option Addr) (len cap B n : Nat) (M : Int) (w : World) (hc : CodeRow w B a len) (hB : B ≤ w.heap.size) (hn : 0 < n ∧ n ≤ 64) (hM0 : 10 ≤ M) (hM1 : M ≤ 1000000) :
    Calls Tryd.prog 8 #[.slice a len cap, .int .i64 (n : Int), .int .i64 M] w fun e w' => ∃ (g c : Nat) (l : List Int), e = .returned (.slice (some ⟨g, 0, none⟩) n c) ∧ l.length = n ∧ (∀ x ∈ l, -M ≤ x ∧ x ≤ M) ∧ w'.ownsRow w.heap.size 3 1 (.slice (some ⟨g, 0, none⟩) n c) n (l.map (Value.int .i64)) ∧ Below w.heap.size w w' := by
  obtain ⟨i0, hi0, hz0, hz1, hz2⟩ := info_parts infoD
  have n64 : (n : Int) ≤ 64 := by omega
  have n0 : (0 : Int) < (n : Int) := by omega
  go_enter Tryd.func8, Tryd.ntmps8
  go_wp2_with fail
  refine (new_cur a len cap B _ hc hB).mono ?_
  rintro e w2 ⟨rfl, hcur2, hb2⟩
  have hc2 := hc.below (hb2.mono hB)
  have hgw := hcur2.lt
  have hs2 := hb2.size
  go_wp2
  go_loopw [8, 9] (fun v i wr => ∃ (k : Nat) (l : List Int), k ≤ n ∧ i = .int .i64 k ∧ l.length = k ∧ (∀ x ∈ l, -M ≤ x ∧ x ≤ M) ∧ wr.ownsRow w2.heap.size 3 1 v k (l.map (Value.int .i64)) ∧ CurAt wr w.heap.size a len ∧ w2.grownBy wr (some w.heap.size))
    (fun _ i _ => n - (intOf i).toNat)
  case atStart => exact ⟨0, [], Nat.zero_le _, rfl, rfl, (fun x hx => by cases hx), World.ownsRow_made w2 #[] 0 (Nat.le_refl _) (by unfold maxLen; omega) rfl, hcur2.kept (World.grownBy_alloc w2 _ none) (by simp), World.grownBy_alloc w2 _ _⟩
  case round =>
    obtain ⟨k, l, hk, rfl, hll, hls, hown, hcr, hgr⟩ := hrel
    have HL : Hid (l.length = k) := hll
    have HS : Hid (∀ x ∈ l, -M ≤ x ∧ x ≤ M) := hls
    clear hll hls
    by_cases hlt : k < n
    · have l0 : (0 : Int) ≤ (k : Int) := by omega
      have l1 : (k : Int) < (n : Int) := by omega
      have hcr' : CodeRow wr B a len := hc2.below (below_of_grown hgr (by omega) (fun j hj => by cases hj; exact hB))
      have hBr : B ≤ wr.heap.size := by have := hgr.size; omega
      go_wp2_with fail
      refine (onceD w.heap.size a len B 3 _ hcr' hB hcr (by omega) (by omega)).mono ?_
      rintro e w3 ⟨b, rfl, hkp⟩
      have hown3 := own_cur hown hgw hkp
      have hgr3 := hgr.trans hkp.2
      have hcr3 := hkp.1
      have hc3 : CodeRow w3 B a len := hc2.below (below_of_grown hgr3 (by omega) (fun j hj => by cases hj; exact hB))
      have hsz3 := hgr3.size
      clear hown hcr hgr hkp hcr' hBr
      cases b
      · go_wp2_with fail
        refine (below_any w.heap.size a len B 21 _ hc3 hB hcr3 (by omega) (by omega)).mono ?_
        rintro e w4 ⟨y, rfl, hy0, hy1, hkp⟩
        have hown4 := own_cur hown3 hgw hkp
        have hgr4 := hgr3.trans hkp.2
        have hsz4 := hgr4.size
        have hz : -M ≤ y - 10 ∧ y - 10 ≤ M := by omega
        go_wp2_with (first
          | (go_at_call 26; refine (broughtD _ _ _ _ (by omega) (by omega)).mono ?_; rintro e w5 ⟨rfl, hw⟩; subst w5)
          | (at_builtin; refine wpList_append_lies _ (by rfl) _ _ 24 (by rfl) w2.heap.size 3 i0 (.int .i64 0) 1 8 Tryd.underlying24 hi0 hz0 hz1 hz2 rfl (by omega) u8 k _ (by rfl) (hown4.alloc _) ⟨w4.heap.size, 0, none⟩ 1 1 [.int .i64 (y - 10)] (by rfl) (by rfl) (World.news_of_block (cs := #[.int .i64 (y - 10)]) (t := 3) (fr := (0, 0)) (heap_alloc_new w4 _)) (by simp [Value.oneCell']) (by omega) (by unfold maxLen; omega) (by omega) (by simp; omega) (w4.heap.size + 1) (by simp) ?_; intro gg cp w6 hown6 hgrow hat hlt2))
        have R := cur_append (v' := u8) (ys := []) (m := 0) hgr4 hown4 hgw (⟨hkp.1, World.grownBy.refl _ _⟩ : CurKept w4 w4 w.heap.size a len) hgrow
        have hown7 : w6.ownsRow w2.heap.size 3 1 (.slice (some ⟨gg, 0, none⟩) (k + 1) cp) (k + 1) ((l ++ [y - 10]).map (Value.int .i64)) := by simpa using hown6
        clear hown6 hgrow hat hlt2 hown3 hown4 hkp hgr3 hgr4 hcr3
        refine ⟨⟨k + 1, l ++ [y - 10], by omega, by go_num, by have := HL.out; simp; omega, fun z hzz => by
          rcases List.mem_append.1 hzz with h | h
          · exact HS.out z h
          · simp at h; subst h; exact hz, hown7, R.1, R.2⟩, ?_⟩
        simp [intOf]; omega
      · go_wp2_with fail
        refine (below_any w.heap.size a len B (2 * M + 1) _ hc3 hB hcr3 (by omega) (by omega)).mono ?_
        rintro e w4 ⟨y, rfl, hy0, hy1, hkp⟩
        have hown4 := own_cur hown3 hgw hkp
        have hgr4 := hgr3.trans hkp.2
        have hsz4 := hgr4.size
        have hz : -M ≤ y - M ∧ y - M ≤ M := by omega
        go_wp2_with (at_builtin; refine wpList_append_lies _ (by rfl) _ _ 24 (by rfl) w2.heap.size 3 i0 (.int .i64 0) 1 8 Tryd.underlying24 hi0 hz0 hz1 hz2 rfl (by omega) u8 k _ (by rfl) (hown4.alloc _) ⟨w4.heap.size, 0, none⟩ 1 1 [.int .i64 (y - M)] (by rfl) (by rfl) (World.news_of_block (cs := #[.int .i64 (y - M)]) (t := 3) (fr := (0, 0)) (heap_alloc_new w4 _)) (by simp [Value.oneCell']) (by omega) (by unfold maxLen; omega) (by omega) (by simp; omega) (w4.heap.size + 1) (by simp) ?_; intro gg cp w6 hown6 hgrow hat hlt2)
        have R := cur_append (v' := u8) (ys := []) (m := 0) hgr4 hown4 hgw (⟨hkp.1, World.grownBy.refl _ _⟩ : CurKept w4 w4 w.heap.size a len) hgrow
        have hown7 : w6.ownsRow w2.heap.size 3 1 (.slice (some ⟨gg, 0, none⟩) (k + 1) cp) (k + 1) ((l ++ [y - M]).map (Value.int .i64)) := by simpa using hown6
        clear hown6 hgrow hat hlt2 hown3 hown4 hkp hgr3 hgr4 hcr3
        refine ⟨⟨k + 1, l ++ [y - M], by omega, by go_num, by have := HL.out; simp; omega, fun z hzz => by
          rcases List.mem_append.1 hzz with h | h
          · exact HS.out z h
          · simp at h; subst h; exact hz, hown7, R.1, R.2⟩, ?_⟩
        simp [intOf]; omega
    · obtain rfl : k = n := by omega
      obtain ⟨gv, cv, rfl, hbv, hlv⟩ := hown.form (by omega)
      go_wp2
      go_ret
      refine ⟨gv, cv, l, rfl, HL.out, HS.out, ⟨hown.1, ?_⟩, hb2.trans (below_of_grown hgr hs2 (fun j hj => by cases hj; exact Nat.le_refl _))⟩
      rcases hown.2 with ⟨h, _⟩ | ⟨g', c', cur, h1, h2, h3⟩
      · cases h
      · exact .inr ⟨g', c', cur, h1, Nat.le_trans hs2 h2, h3⟩
end Go.Proofs.YtlejfkjanllgbaaDoor
