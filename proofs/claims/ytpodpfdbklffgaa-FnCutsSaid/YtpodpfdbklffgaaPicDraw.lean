/-
  Drawn dots and pictures: the walks of spec.l01Once, spec.l12Dots, spec.l12Sized and spec.l12Squares.
-/
import Derived.Test.YtpodpfdbklffgaaDrawOwn
import Derived.Test.YtpodpfdbklffgaaPicKit
import Derived.Test.YtpodpfdbklffgaaNumKit
namespace Go.Proofs.Ytpodpfdbklffgaa
open Go.RowKit
set_option linter.unusedVariables false
set_option maxRecDepth 20000

theorem code_grown {w w' : World} {B g : Nat} {a : Option Addr} {len : Nat} (hc : CodeRow w B a len) (hg : w.grownBy w' (some g)) (hB : B ≤ g) (hBw : B ≤ w.heap.size) : CodeRow w' B a len :=
  hc.below (below_of_grown hg hBw (fun j hj => by cases hj; exact hB))

set_option maxHeartbeats 400000 in
theorem once_any (g : Nat) (a : Option Addr) (len B : Nat) (n : Int) (w : World) (hc : CodeRow w B a len) (hB : B ≤ g) (hcur : CurAt w g a len) (h1 : 1 ≤ n) (h2 : n ≤ 4294967296) :
    Calls Try.prog 60 #[.pointer (some ⟨g, 0, none⟩), .int .i64 n] w fun e w' => ∃ b : Bool, e = .returned (.bool b) ∧ CurKept w w' g a len := by
  go_enter Try.func60, Try.ntmps60
  go_wp2_with (go_at_call 40; refine (below_any g a len B n _ hc hB hcur h1 h2).mono ?_; rintro e w1 ⟨x, rfl, hx0, hx1, hk⟩)
  go_ret
  exact ⟨_, rfl, hk⟩

set_option maxHeartbeats 1600000 in
theorem dots_any (g : Nat) (a : Option Addr) (len B n : Nat) (w : World) (hc : CodeRow w B a len) (hB : B ≤ g) (hcur : CurAt w g a len) (hn : (n : Int) ≤ 100000) :
    Calls Try.prog 69 #[.pointer (some ⟨g, 0, none⟩), .int .i64 (n : Int)] w fun e w' => ∃ l : List Int, e = .returned (.string (strOfNums l)) ∧ l.length = n ∧ CurKept w w' g a len := by
  obtain ⟨i0, hi0, hz0, hz1, hz2⟩ := info_parts infoB
  have hgw := hcur.lt
  have hBw : B ≤ w.heap.size := by omega
  have ha := i64_and255
  go_enter Try.func69, Try.ntmps69
  go_wp2_with fail
  refine (byte_any g a len B _ (hc.below ((Below.refl _ _).alloc hBw _)) hB (hcur.kept (World.grownBy_alloc w _ none) (by simp))).mono ?_
  rintro e w0 ⟨x0, rfl, hx0, hx1, hcr0, hgr0'⟩
  have hgr0 : w.grownBy w0 (some g) := (World.grownBy_alloc w _ (some g)).trans hgr0'
  have o0 : (w.alloc (.cells #[] 5)).ownsRow w.heap.size 5 1 (.slice (some ⟨w.heap.size, 0, none⟩) 0 0) 0 (([] : List Int).map (Value.int .u8)) := World.ownsRow_lit w #[] 0 (Nat.le_refl _) (by unfold maxLen; omega) rfl
  have o1 : w0.ownsRow w.heap.size 5 1 (.slice (some ⟨w.heap.size, 0, none⟩) 0 0) 0 (([] : List Int).map (Value.int .u8)) := o0.kept hgr0' (.inr fun h => by have := (o0.lt g h).1; omega)
  clear o0 hgr0'
  go_wp2
  go_loopw [5, 6, 7] (fun v x i wr => ∃ (k : Nat) (l : List Int) (y : Int), k ≤ n ∧ i = .int .i64 (k : Int) ∧ x = .int .i64 y ∧ 0 ≤ y ∧ y ≤ 255 ∧ l.length = k ∧ wr.ownsRow w.heap.size 5 1 v k (l.map (Value.int .u8)) ∧ CurAt wr g a len ∧ w.grownBy wr (some g))
    (fun _ _ i _ => n - (intOf i).toNat)
  case atStart => exact ⟨0, [], x0, Nat.zero_le _, rfl, rfl, hx0, hx1, rfl, o1, hcr0, hgr0⟩
  case round =>
    obtain ⟨k, l, y, hk, rfl, rfl, hy0, hy1, hll, hown, hcr, hgr⟩ := hrel
    have HL : Hid (l.length = k) := hll
    clear hll o1 hcr0 hgr0
    have l0 : (0 : Int) ≤ (k : Int) := by omega
    by_cases hlt : k < n
    · have l1 : (k : Int) < (n : Int) := by omega
      have hcr' : CodeRow wr B a len := code_grown hc hgr hB hBw
      have hBr : B ≤ wr.heap.size := by have := hgr.size; omega
      have hsz0 := hgr.size
      go_wp2_with fail
      refine (below_any g a len B 6 _ hcr' hB hcr (by omega) (by omega)).mono ?_
      rintro e w1 ⟨z, rfl, hz0', hz1', hk1⟩
      have hcr1 := hk1.code hcr' hB hBr
      have hs1 := hk1.2.size
      have hBr1 : B ≤ w1.heap.size := by omega
      by_cases c0 : z = 0
      · subst c0
        go_wp2_with fail
        refine (byte_any g a len B _ hcr1 hB hk1.1).mono ?_
        rintro e w2 ⟨x, rfl, hx0', hx1', hk2⟩
        have hkp : CurKept wr w2 g a len := hk1.trans hk2
        have hown' := own_cur hown hgw hkp
        have hsz1 := hkp.2.size
        go_wp2_with (at_builtin; refine wpList_append_lies _ (by rfl) _ _ 22 (by rfl) w.heap.size 5 i0 (.int .u8 0) 1 1 Try.underlying22 hi0 hz0 hz1 hz2 rfl (by omega) u5 k _ (by rfl) (hown'.alloc _) ⟨w2.heap.size, 0, none⟩ 1 1 [.int .u8 x] (by rfl) (by rfl) (World.news_of_block (cs := #[.int .u8 x]) (t := 5) (fr := (0, 0)) (heap_alloc_new w2 _)) (by simp [Value.oneCell']) (by omega) (by unfold maxLen; omega) (by omega) (by simp; omega) (w2.heap.size + 1) (by simp) ?_; intro gg cp w5 hown2 hgrow hat hlt2)
        have R := cur_append (v' := u5) (ys := []) (m := 0) hgr hown hgw hkp hgrow
        have hown3 : w5.ownsRow w.heap.size 5 1 (.slice (some ⟨gg, 0, none⟩) (k + 1) cp) (k + 1) ((l ++ [x]).map (Value.int .u8)) := by simpa using hown2
        clear hown2 hgrow hat hlt2 hown hown' hcr hcr' hkp
        go_roundw
        case rel => exact ⟨k + 1, l ++ [x], x, by omega, by go_num, rfl, by omega, by omega, by have := HL.out; simp; omega, hown3, R.1, R.2⟩
        case measure => simp [intOf]; omega
      · by_cases c1 : z = 1
        · subst c1
          go_wp2_with fail
          refine (below_any g a len B 9 _ hcr1 hB hk1.1 (by omega) (by omega)).mono ?_
          rintro e w2 ⟨x, rfl, hx0', hx1', hk2⟩
          have hkp : CurKept wr w2 g a len := hk1.trans hk2
          have hown' := own_cur hown hgw hkp
          have hsz1 := hkp.2.size
          have hm0 : 0 ≤ (y + x + 252) % 256 := Int.emod_nonneg _ (by decide)
          have hm1 : (y + x + 252) % 256 ≤ 255 := by omega
          go_wp2_with (at_builtin; refine wpList_append_lies _ (by rfl) _ _ 22 (by rfl) w.heap.size 5 i0 (.int .u8 0) 1 1 Try.underlying22 hi0 hz0 hz1 hz2 rfl (by omega) u5 k _ (by rfl) (hown'.alloc _) ⟨w2.heap.size, 0, none⟩ 1 1 [.int .u8 ((y + x + 252) % 256)] (by rfl) (by rfl) (World.news_of_block (cs := #[.int .u8 ((y + x + 252) % 256)]) (t := 5) (fr := (0, 0)) (heap_alloc_new w2 _)) (by simp [Value.oneCell']) (by omega) (by unfold maxLen; omega) (by omega) (by simp; omega) (w2.heap.size + 1) (by simp) ?_; intro gg cp w5 hown2 hgrow hat hlt2)
          have R := cur_append (v' := u5) (ys := []) (m := 0) hgr hown hgw hkp hgrow
          have hown3 : w5.ownsRow w.heap.size 5 1 (.slice (some ⟨gg, 0, none⟩) (k + 1) cp) (k + 1) ((l ++ [((y + x + 252) % 256)]).map (Value.int .u8)) := by simpa using hown2
          clear hown2 hgrow hat hlt2 hown hown' hcr hcr' hkp
          go_roundw
          case rel => exact ⟨k + 1, l ++ [((y + x + 252) % 256)], ((y + x + 252) % 256), by omega, by go_num, rfl, by omega, by omega, by have := HL.out; simp; omega, hown3, R.1, R.2⟩
          case measure => simp [intOf]; omega
        · have hkp : CurKept wr w1 g a len := hk1
          have hown' := own_cur hown hgw hkp
          have hsz1 := hkp.2.size
          go_wp2_with (at_builtin; refine wpList_append_lies _ (by rfl) _ _ 22 (by rfl) w.heap.size 5 i0 (.int .u8 0) 1 1 Try.underlying22 hi0 hz0 hz1 hz2 rfl (by omega) u5 k _ (by rfl) (hown'.alloc _) ⟨w1.heap.size, 0, none⟩ 1 1 [.int .u8 y] (by rfl) (by rfl) (World.news_of_block (cs := #[.int .u8 y]) (t := 5) (fr := (0, 0)) (heap_alloc_new w1 _)) (by simp [Value.oneCell']) (by omega) (by unfold maxLen; omega) (by omega) (by simp; omega) (w1.heap.size + 1) (by simp) ?_; intro gg cp w5 hown2 hgrow hat hlt2)
          have R := cur_append (v' := u5) (ys := []) (m := 0) hgr hown hgw hkp hgrow
          have hown3 : w5.ownsRow w.heap.size 5 1 (.slice (some ⟨gg, 0, none⟩) (k + 1) cp) (k + 1) ((l ++ [y]).map (Value.int .u8)) := by simpa using hown2
          clear hown2 hgrow hat hlt2 hown hown' hcr hcr' hkp
          go_roundw
          case rel => exact ⟨k + 1, l ++ [y], y, by omega, by go_num, rfl, by omega, by omega, by have := HL.out; simp; omega, hown3, R.1, R.2⟩
          case measure => simp [intOf]; omega
    · obtain rfl : k = n := by omega
      have hconv := convD hown
      go_wp2
      go_ret
      exact ⟨l, rfl, HL.out, hcr, hgr⟩
end Go.Proofs.Ytpodpfdbklffgaa
