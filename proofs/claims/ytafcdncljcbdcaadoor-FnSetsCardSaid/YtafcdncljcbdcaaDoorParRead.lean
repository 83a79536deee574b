/-
  The walk of impl.ReadPar.
-/
import Derived.Test.YtafcdncljcbdcaaDoorRdState
import Derived.Test.YtafcdncljcbdcaaDoorParKit
import Derived.BigRegion
namespace Go.Proofs.YtafcdncljcbdcaaDoor
open Go.RowKit
set_option linter.unusedVariables false
set_option maxRecDepth 20000

/-- A par that was read: its numbers, and the state behind it. -/
def rpQ (s : ByteArray) (st : St) : Int := (fixR s 6 st).1
def rpG (s : ByteArray) (st : St) : Bool := flg s (fixR s 6 st).2
def rpX (s : ByteArray) (st : St) : Bool := flg s (fixR s 1 (fixR s 6 st).2).2
def rpC (s : ByteArray) (st : St) : Bool := flg s (fixR s 1 (fixR s 1 (fixR s 6 st).2).2).2
def rpE (s : ByteArray) (st : St) : St := (fixR s 1 (fixR s 1 (fixR s 1 (fixR s 6 st).2).2).2).2
theorem st_ok_of {s : ByteArray} {st st' : St} (h : rowOkB s = true ∨ st = none) (hh : st = none → st' = none) : rowOkB s = true ∨ st' = none := by
  rcases h with h | h
  · exact .inl h
  · exact .inr (hh h)
theorem fixR_none {s : ByteArray} {k : Nat} {st : St} (h : st = none) : (fixR s k st).2 = none := by subst h; rfl
/-- What ReadPar answers. -/
def parV (s : ByteArray) (st : St) : Value :=
  match rpE s st with
  | none => .tuple #[.agg #[.int .i64 0, .bool false, .bool false, .bool false], .int .i64 0, .bool false]
  | some p => if parB (rpQ s st) (rpG s st) (rpX s st) = true then .tuple #[.agg #[.int .i64 (rpQ s st), .bool (rpG s st), .bool (rpX s st), .bool (rpC s st)], .int .i64 (p : Int), .bool true]
    else .tuple #[.agg #[.int .i64 0, .bool false, .bool false, .bool false], .int .i64 0, .bool false]

set_option maxHeartbeats 3200000 in
theorem implReadPar (s : ByteArray) (a : Int) (w : World) (hm : s.size ≤ maxLen) (hE : ErrT w) :
    Calls Tryd.prog 13 #[.string s, .int .i64 a] w fun e w' => e = .returned (parV s (st0 s a)) ∧ Below w.heap.size w w' := by
  have E : Hid (ErrT w) := hE
  have o0 := st0_ok s a
  have o1 := st_ok_of o0 (fixR_none (s := s) (k := 6))
  have o2 := st_ok_of o1 (fixR_none (s := s) (k := 1))
  have o3 := st_ok_of o2 (fixR_none (s := s) (k := 1))
  have HF : Hid (∀ w' g, Rd w' g s (st0 s a) → Calls Tryd.prog 36 #[.pointer (some ⟨g, 0, none⟩), .int .i64 6] w' fun e w'' => e = .returned (.int .i64 (rpQ s (st0 s a))) ∧ Rd w'' g s (fixR s 6 (st0 s a)).2 ∧ w'.grownBy w'' (some g)) := fun w' g h => fixed_any s 6 g _ w' (by omega) o0 h (st0_in s a)
  have HG : Hid (∀ w' g, Rd w' g s (fixR s 6 (st0 s a)).2 → Calls Tryd.prog 41 #[.pointer (some ⟨g, 0, none⟩)] w' fun e w'' => e = .returned (.bool (rpG s (st0 s a))) ∧ Rd w'' g s (fixR s 1 (fixR s 6 (st0 s a)).2).2 ∧ w'.grownBy w'' (some g)) := fun w' g h => flag_any s g _ w' o1 h (fixR_in _ _ _)
  have HX : Hid (∀ w' g, Rd w' g s (fixR s 1 (fixR s 6 (st0 s a)).2).2 → Calls Tryd.prog 41 #[.pointer (some ⟨g, 0, none⟩)] w' fun e w'' => e = .returned (.bool (rpX s (st0 s a))) ∧ Rd w'' g s (fixR s 1 (fixR s 1 (fixR s 6 (st0 s a)).2).2).2 ∧ w'.grownBy w'' (some g)) := fun w' g h => flag_any s g _ w' o2 h (fixR_in _ _ _)
  have HC : Hid (∀ w' g, Rd w' g s (fixR s 1 (fixR s 1 (fixR s 6 (st0 s a)).2).2).2 → Calls Tryd.prog 41 #[.pointer (some ⟨g, 0, none⟩)] w' fun e w'' => e = .returned (.bool (rpC s (st0 s a))) ∧ Rd w'' g s (rpE s (st0 s a)) ∧ w'.grownBy w'' (some g)) := fun w' g h => flag_any s g _ w' o3 h (fixR_in _ _ _)
  have HV : Hid (∀ v, (match rpE s (st0 s a) with
      | none => v = .tuple #[.agg #[.int .i64 0, .bool false, .bool false, .bool false], .int .i64 0, .bool false]
      | some p => v = if parB (rpQ s (st0 s a)) (rpG s (st0 s a)) (rpX s (st0 s a)) = true then .tuple #[.agg #[.int .i64 (rpQ s (st0 s a)), .bool (rpG s (st0 s a)), .bool (rpX s (st0 s a)), .bool (rpC s (st0 s a))], .int .i64 (p : Int), .bool true]
        else .tuple #[.agg #[.int .i64 0, .bool false, .bool false, .bool false], .int .i64 0, .bool false]) → v = parV s (st0 s a)) := fun v h => by
    unfold parV; cases hh : rpE s (st0 s a) with
    | none => rw [hh] at h; exact h
    | some p => rw [hh] at h; exact h
  clear hE o0 o1 o2 o3
  generalize parV s (st0 s a) = V at *
  generalize rpE s (st0 s a) = st4 at *
  generalize rpQ s (st0 s a) = q at *
  generalize rpG s (st0 s a) = fg at *
  generalize rpX s (st0 s a) = fx at *
  generalize rpC s (st0 s a) = fc at *
  generalize (fixR s 1 (fixR s 1 (fixR s 6 (st0 s a)).2).2).2 = st3 at *
  generalize (fixR s 1 (fixR s 6 (st0 s a)).2).2 = st2 at *
  generalize (fixR s 6 (st0 s a)).2 = st1 at *
  go_enter Tryd.func13, Tryd.ntmps13
  go_wp2_with fail
  refine (readerAt_any s a _ hm).mono ?_
  rintro e w1 ⟨rfl, hR, hb⟩
  have Z1 := (Blk.new w #[.int .i64 0, .bool false, .bool false, .bool false] 28).below hb (by simp)
  have hb1 : Below w.heap.size w w1 := ((Below.refl w.heap.size w).alloc (Nat.le_refl _) _).trans (hb.mono (by simp))
  have hR1 : Rd w1 (w.heap.size + 1) s (st0 s a) := by simpa using hR
  have hl1 := hR1.lt
  clear hR hb
  go_wp2_with fail
  have P0 : PSt w (w1.alloc (.cells #[.int .i64 0, .bool false, .bool false, .bool false] 28)) w.heap.size (w.heap.size + 1) w1.heap.size s 28 #[.int .i64 0, .bool false, .bool false, .bool false] (st0 s a) #[.int .i64 0, .bool false, .bool false, .bool false] :=
    ⟨Z1.alloc _, hR1.grown (World.grownBy_alloc w1 _ (some w1.heap.size)) (by omega), Blk.new w1 _ _, (E.out.below hb1 (Nat.le_refl _)).below ((Below.refl w1.heap.size w1).alloc (Nat.le_refl _) _) (Nat.le_refl _), hb1.alloc hb1.size _, Nat.le_refl _, by omega, by omega, E.out.lt⟩
  clear Z1 hb1 hR1 hl1
  generalize w1.alloc _ = W at *
  generalize w1.heap.size = gp at *
  refine (HF.out W _ P0.r).mono ?_
  rintro e w2 ⟨rfl, hR, hg⟩
  have P1 := P0.call hR hg
  clear hR hg P0
  obtain ⟨⟨x0, x1, x2, x3⟩, f0, f1, f2, f3⟩ := P1.p.four
  have P2 := P1.store 0 (.int .i64 q) (by simp)
  clear P1
  go_wp2_with fail
  clear x0 x1 x2 x3 f0 f1 f2 f3
  generalize w2.setCell _ _ = W2 at *
  refine (HG.out W2 _ P2.r).mono ?_
  rintro e w3 ⟨rfl, hR, hg⟩
  have P3 := P2.call hR hg
  clear hR hg P2
  obtain ⟨⟨x0, x1, x2, x3⟩, f0, f1, f2, f3⟩ := P3.p.four
  have P4 := P3.store 1 (.bool fg) (by simp)
  clear P3
  go_wp2_with fail
  clear x0 x1 x2 x3 f0 f1 f2 f3
  generalize w3.setCell _ _ = W3 at *
  refine (HX.out W3 _ P4.r).mono ?_
  rintro e w4 ⟨rfl, hR, hg⟩
  have P5 := P4.call hR hg
  clear hR hg P4
  obtain ⟨⟨x0, x1, x2, x3⟩, f0, f1, f2, f3⟩ := P5.p.four
  have P6 := P5.store 2 (.bool fx) (by simp)
  clear P5
  go_wp2_with fail
  clear x0 x1 x2 x3 f0 f1 f2 f3
  generalize w4.setCell _ _ = W4 at *
  refine (HC.out W4 _ P6.r).mono ?_
  rintro e w5 ⟨rfl, hR, hg⟩
  have P7 := P6.call hR hg
  clear hR hg P6
  obtain ⟨⟨x0, x1, x2, x3⟩, f0, f1, f2, f3⟩ := P7.p.four
  have P8 := P7.store 3 (.bool fc) (by simp)
  clear P7
  go_wp2_with fail
  clear x0 x1 x2 x3 f0 f1 f2 f3
  generalize w5.setCell _ _ = W5 at *
  have P8' : PSt w W5 w.heap.size (w.heap.size + 1) gp s 28 #[.int .i64 0, .bool false, .bool false, .bool false] st4 #[.int .i64 q, .bool fg, .bool fx, .bool fc] := P8
  clear P8
  refine (parFault_any _ _ _ _ W5).mono ?_
  rintro e w6 ⟨hpar, hc⟩
  have P9 := P8'.below hc
  clear hc P8'
  cases st4 with
  | none =>
    have HZ := HV.out _ rfl
    obtain ⟨pp, c0, hc0, hB⟩ := P9.r
    have HB : Hid (Blk w6 (w.heap.size + 1) #[.string s, .int .i64 pp, faultV c0] 74) := hB
    obtain ⟨⟨y0, y1, y2⟩, _⟩ := Blk.three hB
    have HK := fun v => hold_bad s pp c0 (w.heap.size + 1) v w6 HB.out
    have e0 : (c0 != 0) = true := by rw [bne_iff_ne]; exact hc0
    obtain ⟨v, hv⟩ : ∃ v, e = .returned v := by
      rcases hpar with ⟨_, rfl⟩ | ⟨_, c, _, rfl⟩
      · exact ⟨_, rfl⟩
      · exact ⟨_, rfl⟩
    subst hv
    clear hpar hB HB hc0
    have HP9 : Hid (PSt _ _ _ _ _ _ _ _ _ _) := P9
    have HE := code_hit c0 w6 P9.e
    clear P9
    go_wp2_with (first
      | (go_at_call 38; refine (HK _).mono ?_; rintro e w7 ⟨rfl, hw⟩; subst w7)
      | (go_at_call 40; refine HE.mono ?_; rintro e w7 ⟨rfl, hc7⟩; have P10 := HP9.out.below hc7; obtain ⟨⟨z0, z1, z2, z3⟩, g0, g1, g2, g3⟩ := P10.z.four; have F10 := P10.fill (v0 := .int .i64 0) (v1 := .bool false) (v2 := .bool false) (v3 := .bool false); clear P10))
    (try simp only [Exit.inBlock, Exit.then])
    refine bodyPost_ret (results_cell_two rfl _ _ w.heap.size 28 _ (0, 0) _ rfl F10.1 Tryd.underlying28 rfl (by kernel_rfl)) rfl ?_
    exact ⟨by rw [← HZ]; rfl, F10.2⟩
  | some pe =>
    have hB : Blk w6 (w.heap.size + 1) #[.string s, .int .i64 (pe : Int), .nilIface] 74 := P9.r
    rcases hpar with ⟨hpar, rfl⟩ | ⟨hpar, c, hc0, rfl⟩
    · have HZ : Hid (.tuple #[.agg #[.int .i64 q, .bool fg, .bool fx, .bool fc], .int .i64 (pe : Int), .bool true] = V) := HV.out _ (by simp only []; rw [if_pos hpar])
      have HK := hold_nil s pe (w.heap.size + 1) w6 hB
      have PA := P9.call (st' := some pe) (hB.set 2 .nilIface (by simp)) (grown_set w6 _ _ _)
      generalize hW7 : w6.setCell ⟨w.heap.size + 1, 2, none⟩ .nilIface = W7 at *
      obtain ⟨⟨y0, y1, y2⟩, _⟩ := Blk.three (show Blk W7 (w.heap.size + 1) #[.string s, .int .i64 (pe : Int), .nilIface] 74 from PA.r)
      clear hpar hB P9 hW7
      have HPA : Hid (PSt _ _ _ _ _ _ _ _ _ _) := PA
      clear PA
      go_wp2_with (first
        | (go_at_call 38; refine HK.mono ?_; rintro e w7 ⟨rfl, hw⟩; subst w7)
        | (go_at_call 40; refine (code_nil _).mono ?_; rintro e w8 ⟨rfl, hc8⟩))
      have PB := HPA.out.below hc8
      obtain ⟨⟨z0, z1, z2, z3⟩, g0, g1, g2, g3⟩ := PB.z.four
      obtain ⟨⟨x0, x1, x2, x3⟩, _⟩ := PB.p.four
      clear y0 y1 y2
      obtain ⟨⟨y0, y1, y2⟩, _⟩ := Blk.three (show Blk w8 (w.heap.size + 1) #[.string s, .int .i64 (pe : Int), .nilIface] 74 from PB.r)
      have F10 : Hid _ := (PB.below (Below.refl w8.heap.size w8).drew).fill (v0 := .int .i64 q) (v1 := .bool fg) (v2 := .bool fx) (v3 := .bool fc)
      have n1 := PB.h1
      have n2 := PB.h2
      clear PB hc8 HPA HV
      go_region
      all_goals go_wp2
      (try simp only [Exit.inBlock, Exit.then])
      refine bodyPost_ret (results_cell_two rfl _ _ w.heap.size 28 _ (0, 0) _ rfl F10.out.1 Tryd.underlying28 rfl (by kernel_rfl)) rfl ?_
      exact ⟨by rw [← HZ.out]; rfl, F10.out.2⟩
    · have HZ : Hid (.tuple #[.agg #[.int .i64 0, .bool false, .bool false, .bool false], .int .i64 0, .bool false] = V) := HV.out _ (by simp only []; rw [if_neg (by simp [hpar])])
      have HK := hold_fault s pe c (w.heap.size + 1) w6 hB
      have PA := P9.call (st' := none) ⟨pe, c, hc0, hB.set 2 (faultV c) (by simp)⟩ (grown_set w6 _ _ _)
      have BA : Blk (w6.setCell ⟨w.heap.size + 1, 2, none⟩ (faultV c)) (w.heap.size + 1) #[.string s, .int .i64 (pe : Int), faultV c] 74 := hB.set 2 (faultV c) (by simp)
      generalize hW7 : w6.setCell ⟨w.heap.size + 1, 2, none⟩ (faultV c) = W7 at *
      obtain ⟨⟨y0, y1, y2⟩, _⟩ := BA.three
      have e0 : (c != 0) = true := by rw [bne_iff_ne]; exact hc0
      have HE := code_hit c W7 PA.e
      clear hpar hB P9 hW7 BA hc0
      have HPA : Hid (PSt _ _ _ _ _ _ _ _ _ _) := PA
      clear PA
      go_wp2_with (first
        | (go_at_call 38; refine HK.mono ?_; rintro e w7 ⟨rfl, hw⟩; subst w7)
        | (go_at_call 40; refine HE.mono ?_; rintro e w8 ⟨rfl, hc8⟩; have P10 := HPA.out.below hc8; obtain ⟨⟨z0, z1, z2, z3⟩, g0, g1, g2, g3⟩ := P10.z.four; have F10 := P10.fill (v0 := .int .i64 0) (v1 := .bool false) (v2 := .bool false) (v3 := .bool false); clear P10))
      (try simp only [Exit.inBlock, Exit.then])
      refine bodyPost_ret (results_cell_two rfl _ _ w.heap.size 28 _ (0, 0) _ rfl F10.1 Tryd.underlying28 rfl (by kernel_rfl)) rfl ?_
      exact ⟨by rw [← HZ.out]; rfl, F10.2⟩
end Go.Proofs.YtafcdncljcbdcaaDoor
