/-
  Drawn pictures: the walks of spec.l12Sized and spec.l12Squares.
-/
import Derived.Test.YtpodpfdbklffgaaPicDraw
import Derived.Test.YtpodpfdbklffgaaCropOf
namespace Go.Proofs.Ytpodpfdbklffgaa
open Go.RowKit
set_option linter.unusedVariables false
set_option maxRecDepth 20000

theorem Blk.grew' {w w' : World} {k : Nat} {cs : Array Value} {t : TypeId} {row : Option Nat} (h : Blk w k cs t) (hg : w.grownBy w' row) (hne : some k ≠ row) : Blk w' k cs t := (hg.block k h.lt hne).trans h
theorem grown_new {w w' : World} {row : Option Nat} (hg : w.grownBy w' row) {p : Addr} (hp : w.heap.size ≤ p.block) (u : Value) : w.grownBy (w'.setCell p u) row :=
  ⟨hg.os, hg.tape, hg.output, by simpa using hg.size, fun k hk hne => (heap_setCell_other w' p k u (by omega)).trans (hg.block k hk hne)⟩
theorem grown_pic {w w' : World} {row : Option Nat} (hg : w.grownBy w' row) {g : Nat} (hp : w.heap.size ≤ g) (u0 u1 u2 : Value) :
    w.grownBy (((w'.setCell ⟨g, 0, none⟩ u0).setCell ⟨g, 1, none⟩ u1).setCell ⟨g, 2, none⟩ u2) row :=
  grown_new (grown_new (grown_new hg (p := ⟨g, 0, none⟩) hp u0) (p := ⟨g, 1, none⟩) hp u1) (p := ⟨g, 2, none⟩) hp u2
theorem CurAt.other {w : World} {g : Nat} {a : Option Addr} {len : Nat} (h : CurAt w g a len) {p : Addr} (hp : g ≠ p.block) (u : Value) : CurAt (w.setCell p u) g a len := by
  obtain ⟨cap, i, h', h1, h2⟩ := h
  exact ⟨cap, i, h', (heap_setCell_other w p g u hp).trans h1, h2⟩
theorem CurAt.pic {w : World} {g k : Nat} {a : Option Addr} {len : Nat} (h : CurAt w g a len) (hp : g ≠ k) (u0 u1 u2 : Value) : CurAt (((w.setCell ⟨k, 0, none⟩ u0).setCell ⟨k, 1, none⟩ u1).setCell ⟨k, 2, none⟩ u2) g a len :=
  ((h.other (p := ⟨k, 0, none⟩) hp u0).other (p := ⟨k, 1, none⟩) hp u1).other (p := ⟨k, 2, none⟩) hp u2

set_option maxHeartbeats 1600000 in
theorem sized12_any (g : Nat) (a : Option Addr) (len B W H : Nat) (w : World) (hc : CodeRow w B a len) (hB : B ≤ g) (hcur : CurAt w g a len) (hW : 1 ≤ W ∧ W ≤ 256) (hH : 1 ≤ H ∧ H ≤ 256) :
    Calls Try.prog 59 #[.pointer (some ⟨g, 0, none⟩), .int .i64 (W : Int), .int .i64 (H : Int)] w fun e w' => ∃ s : ByteArray, e = .returned (picV (W : Int) (H : Int) s) ∧ s.size = W * H ∧ CurKept w w' g a len := by
  have hgw := hcur.lt
  have hBw : B ≤ w.heap.size := by omega
  have hz := sides_mul (W := (W : Int)) (H := (H : Int)) (by omega) (by omega)
  have HM : Hid ((W : Int) * (H : Int) = ((W * H : Nat) : Int)) := by show _ = _; simp
  go_enter Try.func59, Try.ntmps59
  go_wp2_with fail
  generalize hX : World.alloc w _ = V
  have B0 : Blk V w.heap.size #[.int .i64 0, .int .i64 0, .string ⟨#[]⟩] 25 := by rw [← hX]; exact Blk.new w _ _
  have hg0 : w.grownBy V (some g) := by rw [← hX]; exact World.grownBy_alloc w _ _
  have hcv : CurAt V g a len := by rw [← hX]; exact hcur.kept (World.grownBy_alloc w _ none) (by simp)
  clear hX
  have CD : Hid (Calls Try.prog 69 #[.pointer (some ⟨g, 0, none⟩), .int .i64 ((W : Int) * (H : Int))] V (fun e w' => ∃ l : List Int, e = .returned (.string (strOfNums l)) ∧ l.length = W * H ∧ CurKept V w' g a len)) := by
    show Calls _ _ _ _ _
    rw [HM.out]
    exact dots_any g a len B (W * H) V (code_grown hc hg0 hB hBw) hB hcv (by rw [← HM.out]; omega)
  refine CD.out.mono ?_
  rintro e w2 ⟨l, rfl, hl, hk2⟩
  have hs2 : (strOfNums l).size = W * H := by rw [strOfNums_size, hl]
  generalize strOfNums l = T at *
  have hg2 := hg0.trans hk2.2
  have B2 := B0.grew' hk2.2 (by intro h; have := Option.some.inj h; omega)
  obtain ⟨⟨x0, x1, x2⟩, f0, f1, f2⟩ := B2.three
  have B5 := B2.pic (.int .i64 (W : Int)) (.int .i64 (H : Int)) (.string T)
  have hg5 := grown_pic hg2 (g := w.heap.size) (Nat.le_refl _) (.int .i64 (W : Int)) (.int .i64 (H : Int)) (.string T)
  have hc5 := hk2.1.pic (k := w.heap.size) (by omega) (.int .i64 (W : Int)) (.int .i64 (H : Int)) (.string T)
  have HS : Hid (T.size = W * H) := hs2
  clear hs2 hl hk2 hg2 B0 B2 CD hg0 hcv
  go_wp2
  (try simp only [Exit.inBlock, Exit.then])
  refine bodyPost_ret (results_cell_row rfl _ _ w.heap.size 25 _ (0, 0) _ rfl B5 Try.underlying25 rfl (by kernel_rfl)) rfl ?_
  exact ⟨T, rfl, HS.out, hc5, hg5⟩

set_option maxHeartbeats 1600000 in
theorem squares12_any (g : Nat) (a : Option Addr) (len B : Nat) (w : World) (hc : CodeRow w B a len) (hB : B ≤ g) (hcur : CurAt w g a len) :
    Calls Try.prog 37 #[.pointer (some ⟨g, 0, none⟩)] w fun e w' => ∃ (W H : Nat) (s : ByteArray), e = .returned (picV (W : Int) (H : Int) s) ∧ (1 ≤ W ∧ W ≤ 16) ∧ (1 ≤ H ∧ H ≤ 16) ∧ s.size = W * H ∧ CurKept w w' g a len := by
  have hgw := hcur.lt
  have hBw : B ≤ w.heap.size := by omega
  go_enter Try.func37, Try.ntmps37
  go_wp2_with fail
  generalize hX : World.alloc w _ = V
  have B0 : Blk V w.heap.size #[.int .i64 0, .int .i64 0, .string ⟨#[]⟩] 25 := by rw [← hX]; exact Blk.new w _ _
  have hg0 : w.grownBy V (some g) := by rw [← hX]; exact World.grownBy_alloc w _ _
  have hcv : CurAt V g a len := by rw [← hX]; exact hcur.kept (World.grownBy_alloc w _ none) (by simp)
  have hsv := hg0.size
  clear hX
  refine (below_any g a len B 2 V (code_grown hc hg0 hB hBw) hB hcv (by omega) (by omega)).mono ?_
  rintro e w1 ⟨x, rfl, hx0, hx1, hk1⟩
  have hg1 := hg0.trans hk1.2
  have hs1 := hg1.size
  obtain ⟨W, hW⟩ : ∃ W : Nat, 8 + 8 * x = (W : Int) := ⟨(8 + 8 * x).toNat, by omega⟩
  go_wp2_with fail
  refine (below_any g a len B 2 w1 (code_grown hc hg1 hB hBw) hB hk1.1 (by omega) (by omega)).mono ?_
  rintro e w2 ⟨y, rfl, hy0, hy1, hk2⟩
  have hg2 := hg1.trans hk2.2
  obtain ⟨H, hH⟩ : ∃ H : Nat, 8 + 8 * y = (H : Int) := ⟨(8 + 8 * y).toNat, by omega⟩
  go_wp2_with fail
  refine (sized12_any g a len B W H w2 (code_grown hc hg2 hB hBw) hB hk2.1 (by omega) (by omega)).mono ?_
  rintro e w3 ⟨s, rfl, hs, hk3⟩
  have HS : Hid (s.size = W * H) := hs
  have hg3 := hg2.trans hk3.2
  have hne : some w.heap.size ≠ some g := by intro h; have := Option.some.inj h; omega
  have B3 := ((B0.grew' hk1.2 hne).grew' hk2.2 hne).grew' hk3.2 hne
  have hc3 := hk3.1
  have hWb : 1 ≤ W ∧ W ≤ 16 := by omega
  have hHb : 1 ≤ H ∧ H ≤ 16 := by omega
  obtain ⟨⟨x0, x1, x2⟩, f0, f1, f2⟩ := B3.three
  have B5 := B3.pic (.int .i64 (W : Int)) (.int .i64 (H : Int)) (.string s)
  have hg5 := grown_pic hg3 (g := w.heap.size) (Nat.le_refl _) (.int .i64 (W : Int)) (.int .i64 (H : Int)) (.string s)
  have hc5 := hc3.pic (k := w.heap.size) (by omega) (.int .i64 (W : Int)) (.int .i64 (H : Int)) (.string s)
  clear hs hk1 hk2 hk3 hg1 hg2 hg3 hg0 B0 B3 hcv hc3
  go_wp2
  (try simp only [Exit.inBlock, Exit.then])
  refine bodyPost_ret (results_cell_row rfl _ _ w.heap.size 25 _ (0, 0) _ rfl B5 Try.underlying25 rfl (by kernel_rfl)) rfl ?_
  exact ⟨W, H, s, rfl, hWb, hHb, HS.out, hc5, hg5⟩
end Go.Proofs.Ytpodpfdbklffgaa
