/-
  The walk of laws.FnExactReadSeq.
-/
import Derived.Test.YtijaehhpebllcaaDoorSeqBack
import Derived.Test.YtijaehhpebllcaaDoorSeqMark
namespace Go.Proofs.YtijaehhpebllcaaDoor
open Go.RowKit
set_option linter.unusedVariables false
set_option maxRecDepth 20000

theorem TwoOwn.below {w w' : World} {B : Nat} {v1 v2 : Value} {xs ys : List Int} (h : TwoOwn w B v1 v2 xs ys) (hb : Below w.heap.size w w') (hB : 0 < B) : TwoOwn w' B v1 v2 xs ys :=
  h.grown (grown_of_below hb (some 0)) hB
theorem TwoOwn.ints {w : World} {B : Nat} {a1 a2 : Option Addr} {c1 c2 : Nat} {xs ys : List Int} (h : TwoOwn w B (.slice a1 xs.length c1) (.slice a2 ys.length c2) xs ys) : Ints w a1 xs ∧ Ints w a2 ys := by
  obtain ⟨q1, B2, _, _, q4⟩ := h
  exact ⟨own_ints q1, own_ints q4⟩
/-- What both ReadSeqs answer at a text and a place. -/
theorem readSeq_both (s : ByteArray) (a : Int) (hm : s.size ≤ maxLen) : ∃ (l b : Int) (xs ys : List Int) (p : Int) (r : Bool), xs.length ≤ 4 ∧ ys.length ≤ 4 ∧
    (∀ w : World, Calls Tryd.prog 27 #[.string s, .int .i64 a] w fun e w' => ∃ a1 c1 a2 c2, e = .returned (.tuple #[.agg #[.int .i64 l, .int .i64 b, .slice a1 xs.length c1, .slice a2 ys.length c2], .int .i64 p, .bool r]) ∧ (Ints w' a1 xs ∧ Ints w' a2 ys) ∧ Below w.heap.size w w') ∧
    (∀ w : World, ErrT w → Calls Tryd.prog 15 #[.string s, .int .i64 a] w fun e w' => ∃ a1 c1 a2 c2, e = .returned (.tuple #[.agg #[.int .i64 l, .int .i64 b, .slice a1 xs.length c1, .slice a2 ys.length c2], .int .i64 p, .bool r]) ∧ TwoOwn w' w.heap.size (.slice a1 xs.length c1) (.slice a2 ys.length c2) xs ys ∧ Below w.heap.size w w') := by
  obtain ⟨F, hF⟩ := isCnt_exists s
  cases hok : rdOk F s (st0 s a) with
  | false =>
    refine ⟨0, 0, [], [], 0, false, by simp, by simp, fun w => ?_, fun w hE => ?_⟩
    · refine (specReadSeq F s a w hm hF).mono ?_
      rintro e w' ⟨hb, ⟨_, rfl⟩ | ⟨h, _⟩⟩
      · exact ⟨none, 0, none, 0, rfl, ⟨.inl rfl, .inl rfl⟩, hb⟩
      · rw [hok] at h; cases h
    · refine (implReadSeq F s a w hm hE hF).mono ?_
      rintro e w' ⟨hb, ⟨_, rfl⟩ | ⟨h, _⟩⟩
      · exact ⟨none, 0, none, 0, rfl, ⟨⟨rfl, .inl ⟨rfl, rfl⟩⟩, w.heap.size, Nat.le_refl _, (fun k hk => by cases hk), ⟨rfl, .inl ⟨rfl, rfl⟩⟩⟩, hb⟩
      · rw [hok] at h; cases h
  | true =>
    obtain ⟨pe, hpe⟩ : ∃ pe, rdE F s (st0 s a) = some pe := by
      unfold rdOk at hok
      cases h : rdE F s (st0 s a) with
      | none => rw [h] at hok; simp at hok
      | some pe => exact ⟨pe, rfl⟩
    refine ⟨rdL F (st0 s a), rdB F s (st0 s a), rdX F s (st0 s a), rdY F s (st0 s a), (pe : Int), true, lst_len _ _, lst_len _ _, fun w => ?_, fun w hE => ?_⟩
    · refine (specReadSeq F s a w hm hF).mono ?_
      rintro e w' ⟨hb, ⟨h, _⟩ | ⟨_, a1, c1, a2, c2, pe', hpe', rfl, i1, i2⟩⟩
      · rw [hok] at h; cases h
      · obtain rfl : pe' = pe := by rw [hpe] at hpe'; exact (Option.some.inj hpe').symm
        exact ⟨a1, c1, a2, c2, rfl, ⟨i1, i2⟩, hb⟩
    · refine (implReadSeq F s a w hm hE hF).mono ?_
      rintro e w' ⟨hb, ⟨h, _⟩ | ⟨_, a1, c1, a2, c2, pe', hpe', rfl, ht⟩⟩
      · rw [hok] at h; cases h
      · obtain rfl : pe' = pe := by rw [hpe] at hpe'; exact (Option.some.inj hpe').symm
        exact ⟨a1, c1, a2, c2, rfl, ht, hb⟩

set_option maxHeartbeats 6400000 in
theorem fnExactReadSeq_walk (s : ByteArray) (hm : s.size ≤ maxLen) (a : Int) (wa : (Lit.int .i64 a).wf = true) (w : World) (hE : ErrT w) :
    Calls Tryd.prog 7 #[.string s, .int .i64 a] w fun e w' => e = .returned (.bool true) ∧ Below w.heap.size w w' := by
  have hm' : (s.size : Int) ≤ 9223372036854775807 := by unfold maxLen at hm; omega
  by_cases hbig : 1048576 < (s.size : Int)
  · go_enter Tryd.func7, Tryd.ntmps7
    go_wp2
    go_ret
    exact ⟨rfl, Below.refl _ _⟩
  obtain ⟨l, b, xs, ys, p, r, n1, n2, cs, ci⟩ := readSeq_both s a hm
  have CS : Hid (∀ _, _) := cs
  have CI : Hid (∀ _, _) := ci
  have E : Hid (ErrT w) := hE
  have hpos := hE.lt
  clear hE wa cs ci
  go_enter Tryd.func7, Tryd.ntmps7
  go_wp2_with fail
  refine (CS.out w).mono ?_
  rintro e w1 ⟨a3, c3, a4, c4, rfl, hi, hb1⟩
  go_wp2_with fail
  have X2 := Blk.new w1 #[.int .i64 l, .int .i64 b, .slice a3 xs.length c3, .slice a4 ys.length c4] 26
  have hc2 := (Below.refl w1.heap.size w1).alloc (Nat.le_refl _) (.cells #[.int .i64 l, .int .i64 b, .slice a3 xs.length c3, .slice a4 ys.length c4] 26)
  have hb2 := hb1.trans (hc2.mono hb1.size)
  have I2 : Hid (Ints _ a3 xs ∧ Ints _ a4 ys) := ⟨hi.1.below hc2 (Nat.le_refl _), hi.2.below hc2 (Nat.le_refl _)⟩
  clear hi hb1 hc2
  generalize w1.alloc _ = w2 at *
  generalize w1.heap.size = gx at *
  have HX : Hid (∀ w', Below w2.heap.size w2 w' → (Ints w' a3 xs ∧ Ints w' a4 ys) ∧ Blk w' gx #[.int .i64 l, .int .i64 b, .slice a3 xs.length c3, .slice a4 ys.length c4] 26 ∧ ErrT w' ∧ Below w.heap.size w w') := fun w' h => ⟨⟨I2.out.1.below h (Nat.le_refl _), I2.out.2.below h (Nat.le_refl _)⟩, X2.below h X2.lt, (E.out.below hb2 (Nat.le_refl _)).below h (Nat.le_refl _), hb2.trans (h.mono hb2.size)⟩
  have gx2 : gx < w2.heap.size := X2.lt
  have s2 : 0 < w2.heap.size := by omega
  clear I2 X2 hb2
  refine (CI.out w2 (HX.out w2 (Below.refl _ _)).2.2.1).mono ?_
  rintro e w3 ⟨a5, c5, a6, c6, rfl, ht, hd3⟩
  obtain ⟨⟨x0, x1, x2, x3⟩, _⟩ := (HX.out w3 hd3).2.1.four
  have s23 := hd3.size
  have gxne : gx < w3.heap.size := by omega
  have HT : Hid (TwoOwn _ _ _ _ _ _) := ht
  have HOB : Hid ((Value.slice a5 xs.length c5).ownBlock ≠ some w3.heap.size ∧ (Value.slice a6 ys.length c6).ownBlock ≠ some w3.heap.size) := by
    obtain ⟨q1, B2, _, _, q4⟩ := ht
    exact ⟨fun e => by have := (q1.lt _ e).2; omega, fun e => by have := (q4.lt _ e).2; omega⟩
  clear ht
  go_wp2_with fail
  have Y4 := Blk.new w3 #[.int .i64 l, .int .i64 b, .slice a5 xs.length c5, .slice a6 ys.length c6] 26
  have hc4 := (Below.refl w3.heap.size w3).alloc (Nat.le_refl _) (.cells #[.int .i64 l, .int .i64 b, .slice a5 xs.length c5, .slice a6 ys.length c6] 26)
  have hd4 := hd3.trans (hc4.mono s23)
  have HT4 : Hid (TwoOwn _ _ _ _ _ _) := HT.out.below hc4 s2
  clear hc4 HT hd3
  generalize w3.alloc _ = w4 at *
  generalize w3.heap.size = gy at *
  have u4 := HT4.out.ints
  have v4 := (HX.out w4 hd4).1
  refine (eqSeq_any _ _ _ _ _ _ _ _ _ _ _ _ w4 u4.1 u4.2 v4.1 v4.2 (by omega) (by omega)).mono ?_
  rintro e w5 ⟨rfl, hc5⟩
  have Y5 := Y4.below hc5 Y4.lt
  have hd5 := hd4.trans (hc5.mono hd4.size)
  have HT5 : Hid (TwoOwn _ _ _ _ _ _) := HT4.out.below hc5 s2
  have s25 := hd5.size
  obtain ⟨⟨y0, y1, y2, y3⟩, _⟩ := Y5.four
  clear hc5 HT4 u4 v4 Y4 x0 x1 x2 x3 hd4
  go_wp2_with fail
  refine (markSeq_any _ _ _ _ _ _ _ _ _ w5 HT5.out s25 n1 n2).mono ?_
  rintro e w6 ⟨rfl, m1, m2, hd56, fr⟩
  have Y6 : Blk w6 gy #[.int .i64 l, .int .i64 b, .slice a5 xs.length c5, .slice a6 ys.length c6] 26 := (fr gy Y5.lt HOB.out.1 HOB.out.2).trans Y5
  have hd6 := hd5.trans hd56
  have HM6 : Hid (Ints w6 a5 (marksI 1 xs.length) ∧ Ints w6 a6 (marksI (1 + (xs.length : Int)) ys.length)) := ⟨m1, m2⟩
  clear y0 y1 y2 y3
  obtain ⟨⟨y0, y1, y2, y3⟩, _⟩ := Y6.four
  clear fr hd5 hd56 Y5 HT5 HOB m1 m2
  have l1 : (xs.length : Int) ≤ 4 := by omega
  have l2 : (ys.length : Int) ≤ 4 := by omega
  go_wp2_with fail
  refine (heldSeq_any _ _ _ _ _ _ _ _ w6 HM6.out.1 HM6.out.2 n1 n2).mono ?_
  rintro e w7 ⟨rfl, hc7⟩
  have Y7 := Y6.below hc7 Y6.lt
  have hd7 := hd6.trans (hc7.mono hd6.size)
  have HM7 : Hid (Ints w7 a5 (marksI 1 xs.length) ∧ Ints w7 a6 (marksI (1 + (xs.length : Int)) ys.length)) := ⟨HM6.out.1.below hc7 (Nat.le_refl _), HM6.out.2.below hc7 (Nat.le_refl _)⟩
  clear hc7 Y6 hd6 HM6 y0 y1 y2 y3
  go_wp2_with fail
  refine (CI.out w7 (HX.out w7 hd7).2.2.1).mono ?_
  rintro e w8 ⟨a7, c7, a8, c8, rfl, ht, hc8⟩
  have Y8 := Y7.below hc8 Y7.lt
  have hd8 := hd7.trans (hc8.mono hd7.size)
  have HM8 : Hid (Ints w8 a5 (marksI 1 xs.length) ∧ Ints w8 a6 (marksI (1 + (xs.length : Int)) ys.length)) := ⟨HM7.out.1.below hc8 (Nat.le_refl _), HM7.out.2.below hc8 (Nat.le_refl _)⟩
  have u8 : Hid (Ints w8 a7 xs ∧ Ints w8 a8 ys) := ht.ints
  obtain ⟨⟨x0, x1, x2, x3⟩, _⟩ := (HX.out w8 hd8).2.1.four
  have gx8 : gx < w8.heap.size := (HX.out w8 hd8).2.1.lt
  have gy8 : gy < w8.heap.size := Y8.lt
  clear hc8 Y7 hd7 HM7 ht
  go_wp2_with fail
  have hc9 := (Below.refl w8.heap.size w8).alloc (Nat.le_refl _) (.cells #[.int .i64 l, .int .i64 b, .slice a7 xs.length c7, .slice a8 ys.length c8] 26)
  have Y9 := Y8.alloc (.cells #[.int .i64 l, .int .i64 b, .slice a7 xs.length c7, .slice a8 ys.length c8] 26)
  have hd9 := hd8.trans (hc9.mono hd8.size)
  have HM9 : Hid (Ints _ a5 (marksI 1 xs.length) ∧ Ints _ a6 (marksI (1 + (xs.length : Int)) ys.length)) := ⟨HM8.out.1.below hc9 (Nat.le_refl _), HM8.out.2.below hc9 (Nat.le_refl _)⟩
  have u9 : Hid (Ints _ a7 xs ∧ Ints _ a8 ys) := ⟨u8.out.1.below hc9 (Nat.le_refl _), u8.out.2.below hc9 (Nat.le_refl _)⟩
  clear hc9 Y8 hd8 HM8 u8 x0 x1 x2 x3
  generalize w8.alloc _ = w9 at *
  have v9 := (HX.out w9 hd9).1
  refine (eqSeq_any _ _ _ _ _ _ _ _ _ _ _ _ w9 u9.out.1 u9.out.2 v9.1 v9.2 (by omega) (by omega)).mono ?_
  rintro e w10 ⟨rfl, hc⟩
  have Y10 := Y9.below hc Y9.lt
  have hd10 := hd9.trans (hc.mono hd9.size)
  have HM10 : Hid (Ints w10 a5 (marksI 1 xs.length) ∧ Ints w10 a6 (marksI (1 + (xs.length : Int)) ys.length)) := ⟨HM9.out.1.below hc (Nat.le_refl _), HM9.out.2.below hc (Nat.le_refl _)⟩
  obtain ⟨⟨y0, y1, y2, y3⟩, _⟩ := Y10.four
  clear hc Y9 hd9 HM9 u9 v9
  go_wp2_with fail
  refine (heldSeq_any _ _ _ _ _ _ _ _ w10 HM10.out.1 HM10.out.2 n1 n2).mono ?_
  rintro e w11 ⟨rfl, hc⟩
  have hd11 := hd10.trans (hc.mono hd10.size)
  have hb11 := (HX.out w11 hd11).2.2.2
  clear hc hd10 HM10 Y10 hd11
  go_wp2
  go_ret
  exact ⟨rfl, hb11⟩
end Go.Proofs.YtijaehhpebllcaaDoor
