/-
  The walks of impl's setReader.list and of impl.ReadSeq.
-/
import Derived.Test.YtafcdncljcbdcaaDoorRdState
import Derived.Test.YtafcdncljcbdcaaDoorSeqKit
import Derived.Test.YtafcdncljcbdcaaDoorSeqRows
import Derived.BigRegion
import Derived.Deep.Onto
import Derived.Maps.RangeWalk
namespace Go.Proofs.YtafcdncljcbdcaaDoor
open Go.RowKit
set_option linter.unusedVariables false
set_option maxRecDepth 20000

def lstUp (F : Nat → Option (Int × Nat)) (st : St) (j i : Nat) : Int := if i < j then valA F st i else 0
theorem lstUp_full (F : Nat → Option (Int × Nat)) (st : St) (n : Nat) : (List.range n).map (lstUp F st n) = (List.range n).map (valA F st) := by
  apply List.map_congr_left; intro i hi; simp [lstUp, List.mem_range.1 hi]
theorem lstUp_set (F : Nat → Option (Int × Nat)) (st : St) (n j : Nat) : (((List.range n).map (lstUp F st j)).map (Value.int .i64)).set j (.int .i64 (valA F st j)) = ((List.range n).map (lstUp F st (j + 1))).map (Value.int .i64) := by
  rw [List.map_map, List.map_map]
  have e : Value.int .i64 (valA F st j) = (Value.int .i64 ∘ lstUp F st (j + 1)) j := by simp [lstUp]
  rw [e]
  refine int_range_set n j _ _ (fun i hi => ?_)
  simp only [Function.comp, lstUp]
  by_cases h : i < j
  · simp [h, Nat.lt_succ_of_lt h]
  · simp [h, show ¬ i < j + 1 by omega]
theorem lstUp_zero (F : Nat → Option (Int × Nat)) (st : St) (n : Nat) : (madeCells (Value.int .i64 0).cells (n * 1)).toList = ((List.range n).map (lstUp F st 0)).map (Value.int .i64) := by
  rw [int_made, List.map_map]; apply List.map_congr_left; intro i hi; simp [lstUp]
theorem st_none_cnt {F : Nat → Option (Int × Nat)} {st : St} (h : st = none) : (cnt F st).2 = none := by subst h; rfl

set_option maxHeartbeats 3200000 in
theorem list_any (F : Nat → Option (Int × Nat)) (s : ByteArray) (g : Nat) (st : St) (w : World) (hF : IsCnt s F) (hr : rowOkB s = true ∨ st = none) (h : Rd w g s st) (hin : StIn s st) :
    Calls Tryd.prog 37 #[.pointer (some ⟨g, 0, none⟩)] w fun e w' => ∃ v, e = .returned v ∧ w'.ownsRow w.heap.size 3 1 v (lst F st).1.length ((lst F st).1.map (Value.int .i64)) ∧ Rd w' g s (lst F st).2 ∧ w.grownBy w' (some g) := by
  obtain ⟨i0, hi0, hz0, hz1, hz2⟩ := info_parts infoI
  have hn0 : 0 ≤ (cnt F st).1 := by
    rcases hr with h | h
    · exact (cnt_bd hF h st).1
    · subst h; exact Int.le_refl 0
  have HI : Hid (StIn s (cnt F st).2) := cnt_in hF st
  have hr1 : Hid (rowOkB s = true ∨ (cnt F st).2 = none) := hr.imp id st_none_cnt
  have HC0 : Hid (Calls Tryd.prog 35 #[.pointer (some ⟨g, 0, none⟩)] w fun e w' => e = .returned (.int .i64 (cnt F st).1) ∧ Rd w' g s (cnt F st).2 ∧ w.grownBy w' (some g)) := counted_any F s g st w hF hr h hin
  have HL : Hid (lst F st = if 4 < (cnt F st).1 then ([], none) else ((List.range (cnt F st).1.toNat).map (valA F (cnt F st).2), stA F (cnt F st).2 (cnt F st).1.toNat)) := rfl
  have HNone : Hid (4 < (cnt F st).1 → ∃ p, (cnt F st).2 = some p) := fun h4 => by
    cases st with
    | none => simp [cnt] at h4
    | some p =>
      cases hp : F p with
      | none => simp [cnt, hp] at h4
      | some r => exact ⟨r.2, by simp [cnt, hp]⟩
  have HF : Hid (IsCnt s F) := hF
  have hgl := h.lt
  clear h hin hr hF
  generalize lst F st = L at *
  generalize (cnt F st).2 = st1 at *
  generalize (cnt F st).1 = n at *
  obtain ⟨n, rfl⟩ := Int.eq_ofNat_of_zero_le hn0
  clear hn0
  by_cases h4 : 4 < (n : Int)
  · obtain ⟨p1, rfl⟩ := HNone.out h4
    have HLv : Hid (L = ([], none)) := by show _ = _; rw [HL.out, if_pos h4]
    clear HNone HL
    go_enter Tryd.func37, Tryd.ntmps37
    go_wp2_with fail
    refine HC0.out.mono ?_
    rintro e w1 ⟨rfl, hR, hg⟩
    have hB : Blk w1 g #[.string s, .int .i64 (p1 : Int), .nilIface] 74 := hR
    have HK := hold_fault s p1 2 g w1 hB
    have B2 := hB.set 2 (faultV 2) (by simp)
    have hg2 := hg.trans (grown_set w1 g 2 (faultV 2))
    clear hB hR hg
    generalize w1.setCell ⟨g, 2, none⟩ (faultV 2) = W2 at *
    go_wp2_with (go_at_call 38; refine HK.mono ?_; rintro e w2 ⟨rfl, hw⟩; subst w2)
    go_ret
    rw [HLv.out]
    refine ⟨_, rfl, ⟨rfl, .inr ⟨W2.heap.size, 0, #[], rfl, hg2.size, heap_alloc_new W2 _, Nat.le_refl _, Nat.zero_le _, rfl, rfl⟩⟩, ⟨p1, 2, by decide, B2.alloc _⟩, hg2.trans (World.grownBy_alloc W2 _ _)⟩
  · have HLv : Hid (L = ((List.range n).map (valA F st1), stA F st1 n)) := by show _ = _; rw [HL.out, if_neg h4]; rfl
    clear HNone HL
    have h4' : (n : Int) ≤ 4 := by omega
    go_enter Tryd.func37, Tryd.ntmps37
    go_wp2_with fail
    refine HC0.out.mono ?_
    rintro e w1 ⟨rfl, hR, hg⟩
    have hs1 := hg.size
    go_wp2_with (at_make; refine wpList_make_full _ (by rfl) _ _ 24 (by rfl) w1.heap.size 3 i0 (.int .i64 0) 1 Tryd.underlying24 hi0 hz0 hz1 .i64 .i64 _ _ n (by rfl) (by rfl) (by rfl) (by rfl) (by rw [hz2]; omega) (by unfold maxLen; omega) (Nat.le_refl _) ?_; intro w2 hown0 hgrow0)
    rw [lstUp_zero F st1] at hown0
    have hR0 : Rd w2 g s st1 := hR.below ⟨hgrow0.os, hgrow0.tape, hgrow0.output, hgrow0.size, fun k hk => hgrow0.block k hk (by simp)⟩ (by have := hR.lt; omega)
    have hg0 : w.grownBy w2 (some g) := hg.trans (hgrow0.but _)
    clear hgrow0 hR hg
    go_loopw [19] (fun i wr => ∃ j : Nat, j ≤ n ∧ i = .int .i64 j ∧ wr.ownsRow w1.heap.size 3 1 (.slice (some ⟨w1.heap.size, 0, none⟩) n n) n (((List.range n).map (lstUp F st1 j)).map (Value.int .i64)) ∧ Hid (Rd wr g s (stA F st1 j)) ∧ w.grownBy wr (some g))
      (fun i _ => n - (intOf i).toNat)
    case atStart => exact ⟨0, Nat.zero_le _, rfl, hown0, hR0, hg0⟩
    case round =>
      obtain ⟨j, hj, rfl, hown, HR, hgr⟩ := hrel
      clear hown0 hR0 hg0
      by_cases hlt : j < n
      · have hq0 : (0 : Int) ≤ (j : Int) := by omega
        have hq : (j : Int) < (n : Int) := by omega
        have HC : Hid (Calls Tryd.prog 35 #[.pointer (some ⟨g, 0, none⟩)] wr fun e w' => e = .returned (.int .i64 (valA F st1 j)) ∧ Rd w' g s (stA F st1 (j + 1)) ∧ wr.grownBy w' (some g)) :=
          counted_any F s g _ wr HF.out (hr1.out.imp id (fun h => by rw [h, stA_none])) HR.out (stA_in HF.out _ HI.out j)
        go_wp2_with fail
        refine HC.out.mono ?_
        rintro e w3 ⟨rfl, hR3, hg3⟩
        have hown3 := hown.kept hg3 (.inr (by intro e; simp [Value.ownBlock] at e; omega))
        have hgr3 := hgr.trans hg3
        have HR3 : Hid (Rd w3 g s (stA F st1 (j + 1))) := hR3
        have hcc := hown3.cellAt j (by omega)
        have hfz := hown3.frozenAt j
        have hc' : w3.cell? ⟨w1.heap.size, j, none⟩ = some (.int .i64 (lstUp F st1 j j)) := by rw [hcc]; simp [hlt]
        have hst := hown3.stored j (.int .i64 (valA F st1 j))
        have hR4 := HR3.out.grown hst.2 (by omega)
        have HR4 : Hid (Rd _ _ _ _) := hR4
        have hgr4 := hgr3.andThen hst.2 (fun k hk => by cases hk; exact .inl hs1)
        have hos := hst.1
        rw [lstUp_set] at hos
        clear hcc hst hR3 hR4 hown hown3 hgr hgr3 hg3 HR HR3 HC
        generalize valA F st1 j = x at *
        go_wp2
        go_roundw
        case rel => exact ⟨j + 1, by omega, by go_num, hos, HR4, hgr4⟩
        case measure => simp [intOf]; omega
      · obtain rfl : j = n := by omega
        rw [lstUp_full] at hown
        go_wp2
        go_ret
        rw [HLv.out]
        refine ⟨_, rfl, ?_, HR.out, hgr⟩
        simp only [List.length_map, List.length_range]
        exact hown.mono hs1

theorem own_ints {w : World} {B : Nat} {a : Option Addr} {c : Nat} {xs : List Int} (h : w.ownsRow B 3 1 (.slice a xs.length c) xs.length (xs.map (Value.int .i64))) : Ints w a xs := by
  obtain ⟨a', c', e, i, _⟩ := ints_of_owns h
  cases e
  exact i
theorem own_kept {w w' : World} {B n g : Nat} {v : Value} {xs : List Value} (h : w.ownsRow B 3 1 v n xs) (hg : w.grownBy w' (some g)) (hB : g < B) : w'.ownsRow B 3 1 v n xs :=
  h.kept hg (.inr (fun e => by have := (h.lt g e).1; omega))
theorem own_below {w w' : World} {B n g : Nat} {v : Value} {xs : List Value} (h : w.ownsRow B 3 1 v n xs) (hb : Below w.heap.size w w') (hB : g < B) : w'.ownsRow B 3 1 v n xs :=
  own_kept h (grown_of_below hb (some g)) hB
/-- When ReadSeq answers a set: what stands there makes a right one. -/
def rdOk (F : Nat → Option (Int × Nat)) (s : ByteArray) (st : St) : Bool := (rdE F s st).isSome && seqB (rdL F st) (rdB F s st) (rdX F s st) (rdY F s st)
/-- Two rows of a set, of the call's own, the one apart from the other. -/
def TwoOwn (w' : World) (B : Nat) (v1 v2 : Value) (xs ys : List Int) : Prop :=
  w'.ownsRow B 3 1 v1 xs.length (xs.map (Value.int .i64)) ∧ ∃ B2, B ≤ B2 ∧ (∀ k, v1.ownBlock = some k → k < B2) ∧ w'.ownsRow B2 3 1 v2 ys.length (ys.map (Value.int .i64))
theorem TwoOwn.grown {w w' : World} {B g : Nat} {v1 v2 : Value} {xs ys : List Int} (h : TwoOwn w B v1 v2 xs ys) (hg : w.grownBy w' (some g)) (hB : g < B) : TwoOwn w' B v1 v2 xs ys := by
  obtain ⟨q1, B2, q2, q3, q4⟩ := h
  exact ⟨own_kept q1 hg hB, B2, q2, q3, own_kept q4 hg (by omega)⟩
theorem TwoOwn.mono {w : World} {B B' : Nat} {v1 v2 : Value} {xs ys : List Int} (h : TwoOwn w B v1 v2 xs ys) (hB : B' ≤ B) : TwoOwn w B' v1 v2 xs ys := by
  obtain ⟨q1, B2, q2, q3, q4⟩ := h
  exact ⟨q1.mono hB, B2, by omega, q3, q4⟩

set_option maxHeartbeats 6400000 in
theorem implReadSeq (F : Nat → Option (Int × Nat)) (s : ByteArray) (a : Int) (w : World) (hm : s.size ≤ maxLen) (hE : ErrT w) (hF : IsCnt s F) :
    Calls Tryd.prog 12 #[.string s, .int .i64 a] w fun e w' => Below w.heap.size w w' ∧
      ((rdOk F s (st0 s a) = false ∧ e = .returned (.tuple #[.agg #[.int .i64 0, .int .i64 0, .slice none 0 0, .slice none 0 0], .int .i64 0, .bool false])) ∨
       (rdOk F s (st0 s a) = true ∧ ∃ a1 c1 a2 c2 pe, rdE F s (st0 s a) = some pe ∧ e = .returned (.tuple #[.agg #[.int .i64 (rdL F (st0 s a)), .int .i64 (rdB F s (st0 s a)), .slice a1 (rdX F s (st0 s a)).length c1, .slice a2 (rdY F s (st0 s a)).length c2], .int .i64 (pe : Int), .bool true]) ∧
          TwoOwn w' w.heap.size (.slice a1 (rdX F s (st0 s a)).length c1) (.slice a2 (rdY F s (st0 s a)).length c2) (rdX F s (st0 s a)) (rdY F s (st0 s a)))) := by
  have E : Hid (ErrT w) := hE
  have o0 := st0_ok s a
  have o1 : rowOkB s = true ∨ (cnt F (st0 s a)).2 = none := o0.imp id st_none_cnt
  have o2 : rowOkB s = true ∨ (fixR s 4 (cnt F (st0 s a)).2).2 = none := o1.imp id (fun h => by rw [h]; rfl)
  have o3 : rowOkB s = true ∨ (lst F (fixR s 4 (cnt F (st0 s a)).2).2).2 = none := o2.imp id (fun h => by rw [h]; rfl)
  have HF1 : Hid (∀ w' g, Rd w' g s (st0 s a) → Calls Tryd.prog 35 #[.pointer (some ⟨g, 0, none⟩)] w' fun e w'' => e = .returned (.int .i64 (rdL F (st0 s a))) ∧ Rd w'' g s (cnt F (st0 s a)).2 ∧ w'.grownBy w'' (some g)) := fun w' g h => counted_any F s g _ w' hF o0 h (st0_in s a)
  have HF2 : Hid (∀ w' g, Rd w' g s (cnt F (st0 s a)).2 → Calls Tryd.prog 36 #[.pointer (some ⟨g, 0, none⟩), .int .i64 4] w' fun e w'' => e = .returned (.int .i64 (rdB F s (st0 s a))) ∧ Rd w'' g s (fixR s 4 (cnt F (st0 s a)).2).2 ∧ w'.grownBy w'' (some g)) := fun w' g h => fixed_any s 4 g _ w' (by omega) o1 h (cnt_in hF _)
  have HF3 : Hid (∀ w' g, Rd w' g s (fixR s 4 (cnt F (st0 s a)).2).2 → Calls Tryd.prog 37 #[.pointer (some ⟨g, 0, none⟩)] w' fun e w'' => ∃ v, e = .returned v ∧ w''.ownsRow w'.heap.size 3 1 v (rdX F s (st0 s a)).length ((rdX F s (st0 s a)).map (Value.int .i64)) ∧ Rd w'' g s (lst F (fixR s 4 (cnt F (st0 s a)).2).2).2 ∧ w'.grownBy w'' (some g)) := fun w' g h => list_any F s g _ w' hF o2 h (fixR_in _ _ _)
  have HF4 : Hid (∀ w' g, Rd w' g s (lst F (fixR s 4 (cnt F (st0 s a)).2).2).2 → Calls Tryd.prog 37 #[.pointer (some ⟨g, 0, none⟩)] w' fun e w'' => ∃ v, e = .returned v ∧ w''.ownsRow w'.heap.size 3 1 v (rdY F s (st0 s a)).length ((rdY F s (st0 s a)).map (Value.int .i64)) ∧ Rd w'' g s (rdE F s (st0 s a)) ∧ w'.grownBy w'' (some g)) := fun w' g h => list_any F s g _ w' hF o3 h (lst_in hF _)
  have hX4 : (rdX F s (st0 s a)).length ≤ maxLen := by have := lst_len F (fixR s 4 (cnt F (st0 s a)).2).2; unfold rdX maxLen; omega
  have hY4 : (rdY F s (st0 s a)).length ≤ maxLen := by have := lst_len F (lst F (fixR s 4 (cnt F (st0 s a)).2).2).2; unfold rdY maxLen; omega
  have HO : Hid (rdOk F s (st0 s a) = ((rdE F s (st0 s a)).isSome && seqB (rdL F (st0 s a)) (rdB F s (st0 s a)) (rdX F s (st0 s a)) (rdY F s (st0 s a)))) := rfl
  clear hE o0 o1 o2 o3 hF
  generalize rdOk F s (st0 s a) = ok at *
  generalize rdE F s (st0 s a) = st4 at *
  generalize rdL F (st0 s a) = l at *
  generalize rdB F s (st0 s a) = b at *
  generalize rdX F s (st0 s a) = xs at *
  generalize rdY F s (st0 s a) = ys at *
  generalize (lst F (fixR s 4 (cnt F (st0 s a)).2).2).2 = st3 at *
  generalize (fixR s 4 (cnt F (st0 s a)).2).2 = st2 at *
  generalize (cnt F (st0 s a)).2 = st1 at *
  go_enter Tryd.func12, Tryd.ntmps12
  go_wp2_with fail
  refine (readerAt_any s a _ hm).mono ?_
  rintro e w1 ⟨rfl, hR, hb⟩
  have Z1 := (Blk.new w #[.int .i64 0, .int .i64 0, .slice none 0 0, .slice none 0 0] 26).below hb (by simp)
  have hb1 : Below w.heap.size w w1 := ((Below.refl w.heap.size w).alloc (Nat.le_refl _) _).trans (hb.mono (by simp))
  have hR1 : Rd w1 (w.heap.size + 1) s (st0 s a) := by simpa using hR
  have hl1 := hR1.lt
  clear hR hb
  go_wp2_with fail
  have P0 : PSt w (w1.alloc (.cells #[.int .i64 0, .int .i64 0, .slice none 0 0, .slice none 0 0] 26)) w.heap.size (w.heap.size + 1) w1.heap.size s 26 #[.int .i64 0, .int .i64 0, .slice none 0 0, .slice none 0 0] (st0 s a) #[.int .i64 0, .int .i64 0, .slice none 0 0, .slice none 0 0] :=
    ⟨Z1.alloc _, hR1.grown (World.grownBy_alloc w1 _ (some w1.heap.size)) (by omega), Blk.new w1 _ _, (E.out.below hb1 (Nat.le_refl _)).below ((Below.refl w1.heap.size w1).alloc (Nat.le_refl _) _) (Nat.le_refl _), hb1.alloc hb1.size _, Nat.le_refl _, by omega, by omega, E.out.lt⟩
  clear Z1 hb1 hR1 hl1
  generalize w1.alloc _ = W at *
  generalize w1.heap.size = gp at *
  refine (HF1.out W _ P0.r).mono ?_
  rintro e w2 ⟨rfl, hR, hg⟩
  have P1 := P0.call hR hg
  clear hR hg P0
  obtain ⟨⟨x0, x1, x2, x3⟩, f0, f1, f2, f3⟩ := P1.p.four
  have P2 := P1.store 0 (.int .i64 l) (by simp)
  clear P1
  go_wp2_with fail
  clear x0 x1 x2 x3 f0 f1 f2 f3
  generalize w2.setCell _ _ = W2 at *
  refine (HF2.out W2 _ P2.r).mono ?_
  rintro e w3 ⟨rfl, hR, hg⟩
  have P3 := P2.call hR hg
  clear hR hg P2
  obtain ⟨⟨x0, x1, x2, x3⟩, f0, f1, f2, f3⟩ := P3.p.four
  have P4 := P3.store 1 (.int .i64 b) (by simp)
  clear P3
  go_wp2_with fail
  clear x0 x1 x2 x3 f0 f1 f2 f3
  generalize w3.setCell _ _ = W3 at *
  refine (HF3.out W3 _ P4.r).mono ?_
  rintro e w4 ⟨v1, rfl, ho1, hR, hg⟩
  have P5 := P4.call hR hg
  have hB1 : gp < W3.heap.size := P4.p.lt
  obtain ⟨a1, c1, rfl, _, _⟩ := ints_of_owns ho1
  clear hR hg P4
  obtain ⟨⟨x0, x1, x2, x3⟩, f0, f1, f2, f3⟩ := P5.p.four
  have P6 := P5.store 2 (.slice a1 xs.length c1) (by simp)
  have ho2 := own_kept ho1 (grown_set w4 gp 2 (.slice a1 xs.length c1)) hB1
  have HO2 : Hid (World.ownsRow _ _ _ _ _ _ _) := ho2
  clear P5 ho1 ho2
  go_wp2_with fail
  clear x0 x1 x2 x3 f0 f1 f2 f3
  generalize w4.setCell _ _ = W4 at *
  refine (HF4.out W4 _ P6.r).mono ?_
  rintro e w5 ⟨v2, rfl, ho3, hR, hg⟩
  have P7 := P6.call hR hg
  have hgr : w.heap.size + 1 < W3.heap.size := by have := P6.h2; omega
  have ho4 := own_kept HO2.out hg hgr
  have hB2 : gp < W4.heap.size := P6.p.lt
  have hap : ∀ k, (Value.slice a1 xs.length c1).ownBlock = some k → k < W4.heap.size := fun k hk => (HO2.out.lt k hk).2
  obtain ⟨a2, c2, rfl, _, _⟩ := ints_of_owns ho3
  clear hR hg P6 HO2
  obtain ⟨⟨x0, x1, x2, x3⟩, f0, f1, f2, f3⟩ := P7.p.four
  have P8 := P7.store 3 (.slice a2 ys.length c2) (by simp)
  have ho5 := own_kept ho4 (grown_set w5 gp 3 (.slice a2 ys.length c2)) hB1
  have ho6 := own_kept ho3 (grown_set w5 gp 3 (.slice a2 ys.length c2)) hB2
  clear P7 ho4 ho3
  go_wp2_with fail
  clear x0 x1 x2 x3 f0 f1 f2 f3
  generalize w5.setCell _ _ = W5 at *
  have P8' : PSt w W5 w.heap.size (w.heap.size + 1) gp s 26 #[.int .i64 0, .int .i64 0, .slice none 0 0, .slice none 0 0] st4 #[.int .i64 l, .int .i64 b, .slice a1 xs.length c1, .slice a2 ys.length c2] := P8
  have hw3 : w.heap.size + 1 ≤ W3.heap.size := by omega
  have hw4 : w.heap.size + 1 ≤ W4.heap.size := by have := P8'.h2; omega
  have hsm : w.heap.size + 1 < W3.heap.size ∧ w.heap.size + 1 < W4.heap.size := ⟨hgr, by have := P8'.h2; omega⟩
  have HG : Hid (∀ w', W5.grownBy w' (some (w.heap.size + 1)) → TwoOwn w' (w.heap.size + 1) (.slice a1 xs.length c1) (.slice a2 ys.length c2) xs ys) := fun w' hg => ⟨(own_kept ho5 hg hsm.1).mono hw3, W4.heap.size, hw4, hap, own_kept ho6 hg hsm.2⟩
  have HI : Hid (Ints W5 a1 xs ∧ Ints W5 a2 ys) := ⟨own_ints ho5, own_ints ho6⟩
  clear P8 ho5 ho6 hap hw3 hw4 hsm
  refine (seqFault_any _ _ _ _ _ _ _ _ W5 HI.out.1 HI.out.2 hX4 hY4).mono ?_
  rintro e w6 ⟨hpar, hc⟩
  have P9 := P8'.below hc
  have hG6 := grown_of_below hc (some (w.heap.size + 1))
  clear hc P8' HI
  cases st4 with
  | none =>
    have HZ : Hid (ok = false) := by show _ = _; rw [HO.out]; rfl
    obtain ⟨pp, c0, hc0, hB⟩ := P9.r
    have HB : Hid (Blk w6 (w.heap.size + 1) #[.string s, .int .i64 pp, faultV c0] 74) := hB
    obtain ⟨⟨y0, y1, y2⟩, _⟩ := Blk.three hB
    have HK := fun v => hold_bad s pp c0 (w.heap.size + 1) v w6 HB.out
    have e0 : (c0 != 0) = true := by rw [bne_iff_ne]; exact hc0
    obtain ⟨v, hv⟩ : ∃ v, e = .returned v := by
      rcases hpar with ⟨_, rfl⟩ | ⟨_, c, _, rfl⟩
      · exact ⟨_, rfl⟩
      · exact ⟨_, rfl⟩
    subst hv
    clear hpar hB HB hc0 hG6 HG
    have HP9 : Hid (PSt _ _ _ _ _ _ _ _ _ _) := P9
    have HE := code_hit c0 w6 P9.e
    clear P9
    go_wp2_with (first
      | (go_at_call 38; refine (HK _).mono ?_; rintro e w7 ⟨rfl, hw⟩; subst w7)
      | (go_at_call 40; refine HE.mono ?_; rintro e w7 ⟨rfl, hc7⟩; have P10 := HP9.out.below hc7; obtain ⟨⟨z0, z1, z2, z3⟩, g0, g1, g2, g3⟩ := P10.z.four; have F10 := P10.fill (v0 := .int .i64 0) (v1 := .int .i64 0) (v2 := .slice none 0 0) (v3 := .slice none 0 0); clear P10))
    (try simp only [Exit.inBlock, Exit.then])
    refine bodyPost_ret (results_cell_two rfl _ _ w.heap.size 26 _ (0, 0) _ rfl F10.1 Tryd.underlying26 rfl (by kernel_rfl)) rfl ?_
    exact ⟨F10.2, .inl ⟨HZ.out, rfl⟩⟩
  | some pe =>
    have hB : Blk w6 (w.heap.size + 1) #[.string s, .int .i64 (pe : Int), .nilIface] 74 := P9.r
    rcases hpar with ⟨hpar, rfl⟩ | ⟨hpar, c, hc0, rfl⟩
    · have HZ : Hid (ok = true) := by show _ = _; rw [HO.out, hpar]; rfl
      have HK := hold_nil s pe (w.heap.size + 1) w6 hB
      have PA := P9.call (st' := some pe) (hB.set 2 .nilIface (by simp)) (grown_set w6 _ _ _)
      have hG7 := hG6.trans (grown_set w6 (w.heap.size + 1) 2 .nilIface)
      generalize hW7 : w6.setCell ⟨w.heap.size + 1, 2, none⟩ .nilIface = W7 at *
      obtain ⟨⟨y0, y1, y2⟩, _⟩ := Blk.three (show Blk W7 (w.heap.size + 1) #[.string s, .int .i64 (pe : Int), .nilIface] 74 from PA.r)
      clear hpar hB P9 hW7 hG6
      have HPA : Hid (PSt _ _ _ _ _ _ _ _ _ _) := PA
      clear PA
      go_wp2_with (first
        | (go_at_call 38; refine HK.mono ?_; rintro e w7 ⟨rfl, hw⟩; subst w7)
        | (go_at_call 40; refine (code_nil _).mono ?_; rintro e w8 ⟨rfl, hc8⟩))
      have PB := HPA.out.below hc8
      obtain ⟨⟨z0, z1, z2, z3⟩, g0, g1, g2, g3⟩ := PB.z.four
      obtain ⟨⟨x0, x1, x2, x3⟩, _⟩ := PB.p.four
      clear y0 y1 y2
      obtain ⟨⟨y0, y1, y2⟩, _⟩ := Blk.three (show Blk w8 (w.heap.size + 1) #[.string s, .int .i64 (pe : Int), .nilIface] 74 from PB.r)
      have F10 : Hid _ := (PB.below (Below.refl w8.heap.size w8).drew).fill (v0 := .int .i64 l) (v1 := .int .i64 b) (v2 := .slice a1 xs.length c1) (v3 := .slice a2 ys.length c2)
      have hG8 : Hid (TwoOwn w8 (w.heap.size + 1) (.slice a1 xs.length c1) (.slice a2 ys.length c2) xs ys) := HG.out w8 (hG7.trans (grown_of_below hc8 _))
      have n1 := PB.h1
      have n2 := PB.h2
      clear PB hc8 HPA hG7 HG
      go_region
      all_goals go_wp2
      (try simp only [Exit.inBlock, Exit.then])
      refine bodyPost_ret (results_cell_two rfl _ _ w.heap.size 26 _ (0, 0) _ rfl F10.out.1 Tryd.underlying26 rfl (by kernel_rfl)) rfl ?_
      refine ⟨F10.out.2, .inr ⟨HZ.out, a1, c1, a2, c2, pe, rfl, rfl, ?_⟩⟩
      exact (((((hG8.out.grown (grown_drew w8 (some w.heap.size)) (by omega)).grown (grown_set _ _ _ _) (by omega)).grown (grown_set _ _ _ _) (by omega)).grown (grown_set _ _ _ _) (by omega)).grown (grown_set _ _ _ _) (by omega)).mono (by omega)
    · have HZ : Hid (ok = false) := by show _ = _; rw [HO.out, hpar]; rfl
      have HK := hold_fault s pe c (w.heap.size + 1) w6 hB
      have PA := P9.call (st' := none) ⟨pe, c, hc0, hB.set 2 (faultV c) (by simp)⟩ (grown_set w6 _ _ _)
      have BA : Blk (w6.setCell ⟨w.heap.size + 1, 2, none⟩ (faultV c)) (w.heap.size + 1) #[.string s, .int .i64 (pe : Int), faultV c] 74 := hB.set 2 (faultV c) (by simp)
      generalize hW7 : w6.setCell ⟨w.heap.size + 1, 2, none⟩ (faultV c) = W7 at *
      obtain ⟨⟨y0, y1, y2⟩, _⟩ := BA.three
      have e0 : (c != 0) = true := by rw [bne_iff_ne]; exact hc0
      have HE := code_hit c W7 PA.e
      clear hpar hB P9 hW7 BA hc0 hG6 HG
      have HPA : Hid (PSt _ _ _ _ _ _ _ _ _ _) := PA
      clear PA
      go_wp2_with (first
        | (go_at_call 38; refine HK.mono ?_; rintro e w7 ⟨rfl, hw⟩; subst w7)
        | (go_at_call 40; refine HE.mono ?_; rintro e w8 ⟨rfl, hc8⟩; have P10 := HPA.out.below hc8; obtain ⟨⟨z0, z1, z2, z3⟩, g0, g1, g2, g3⟩ := P10.z.four; have F10 := P10.fill (v0 := .int .i64 0) (v1 := .int .i64 0) (v2 := .slice none 0 0) (v3 := .slice none 0 0); clear P10))
      (try simp only [Exit.inBlock, Exit.then])
      refine bodyPost_ret (results_cell_two rfl _ _ w.heap.size 26 _ (0, 0) _ rfl F10.1 Tryd.underlying26 rfl (by kernel_rfl)) rfl ?_
      exact ⟨F10.2, .inl ⟨HZ.out, rfl⟩⟩
end Go.Proofs.YtafcdncljcbdcaaDoor
