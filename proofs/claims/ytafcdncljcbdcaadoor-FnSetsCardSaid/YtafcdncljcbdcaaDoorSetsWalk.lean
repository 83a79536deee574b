/-
  The walk of laws.FnSets: drawn right sets come back from their rows, wherever these stand.
-/
import Derived.Test.YtafcdncljcbdcaaDoorHeadDraw
import Derived.Test.YtafcdncljcbdcaaDoorRdBack
import Derived.Test.YtafcdncljcbdcaaDoorSameInts
import Derived.Test.YtafcdncljcbdcaaDoorDrawRows
import Derived.Test.YtafcdncljcbdcaaDoorCodeKit
namespace Go.Proofs.YtafcdncljcbdcaaDoor
open Go.RowKit
set_option linter.unusedVariables false
set_option maxRecDepth 20000

theorem codeV_of {w : World} {B : Nat} {a : Option Addr} {len : Nat} (h : CodeRow w B a len) : ∃ zs : List Int, zs.length = len ∧ CodeV w B a zs := by
  obtain ⟨h1, h2⟩ := h
  rcases h2 with h0 | ⟨b, off, rfl, hb, hc⟩
  · refine ⟨[], by rw [h0]; rfl, by simp, fun j => by simp, .inl rfl⟩
  · have hx : ∀ j : Nat, ∃ z : Int, 0 ≤ z ∧ z ≤ 255 ∧ (j < len → w.cell? ⟨b, off + j, none⟩ = some (.int .u8 z)) := fun j => by
      by_cases hj : j < len
      · obtain ⟨z, z0, z1, z2⟩ := hc j hj
        exact ⟨z, z0, z1, fun _ => z2⟩
      · exact ⟨0, by omega, by omega, fun h => absurd h hj⟩
    have hl : ((List.range len).map (fun j => Classical.choose (hx j))).length = len := by simp
    have hg : ∀ j, j < len → ((List.range len).map (fun j => Classical.choose (hx j))).getD j 0 = Classical.choose (hx j) := fun j hj => by
      rw [List.getD_eq_getElem?_getD, List.getElem?_eq_getElem (by rw [hl]; exact hj)]; simp
    refine ⟨(List.range len).map (fun j => Classical.choose (hx j)), hl, by rw [hl]; exact h1, fun j => ?_, .inr ⟨b, off, rfl, hb, fun j hj => ?_⟩⟩
    · by_cases hj : j < len
      · rw [hg j hj]; exact ⟨(Classical.choose_spec (hx j)).1, (Classical.choose_spec (hx j)).2.1⟩
      · rw [List.getD_eq_getElem?_getD, List.getElem?_eq_none (by rw [hl]; omega)]; simp
    · rw [hl] at hj
      rw [hg j hj]; exact (Classical.choose_spec (hx j)).2.2 hj

/-- A set that was put is read by impl.ReadSeq. -/
theorem readSeq_put (A Y : ByteArray) (l b : Int) (xs ys : List Int) (w : World) (hE : ErrT w) (okS : seqB l b xs ys = true) (hz : (A ++ seqS l b xs ys ++ Y).size ≤ 400000) (hr : Signs (nums (A ++ seqS l b xs ys ++ Y))) :
    Calls Tryd.prog 12 #[.string (A ++ seqS l b xs ys ++ Y), .int .i64 (A.size : Int)] w fun e w' => ∃ (a1 a2 : Option Addr) (c1 c2 : Nat), e = .returned (.tuple #[.agg #[.int .i64 l, .int .i64 b, .slice a1 xs.length c1, .slice a2 ys.length c2], .int .i64 ((A.size : Int) + ((seqS l b xs ys).size : Int)), .bool true]) ∧ Ints w' a1 xs ∧ Ints w' a2 ys ∧ Below w.heap.size w w' := by
  obtain ⟨F, hF⟩ := isCnt_exists (A ++ seqS l b xs ys ++ Y)
  have hst := st0_at (A ++ seqS l b xs ys ++ Y) A.size (by rw [ByteArray.size_append, ByteArray.size_append]; omega) (rowOkB_of _ hz hr)
  obtain ⟨b1, b2, b3, b4, b5, b6⟩ := seq_back hF A Y l b xs ys okS rfl
  refine (implReadSeq F _ (A.size : Int) w (by unfold maxLen; omega) hE hF).mono ?_
  rw [hst, b1, b2, b3, b4, b5, b6]
  rintro e w' ⟨hb, h | ⟨_, a1, c1, a2, c2, pe, he, rfl, q1, B2, q2, q3, q4⟩⟩
  · exact absurd h.1 (by decide)
  · cases he
    exact ⟨a1, a2, c1, c2, by rw [Int.natCast_add], own_ints q1, own_ints q4, hb⟩
/-- A par that was put is read by impl.ReadPar. -/
theorem readPar_put (A X : ByteArray) (q : Int) (g x c : Bool) (w : World) (hE : ErrT w) (okP : parB q g x = true) (hz : (A ++ X ++ parS q g x c).size ≤ 400000) (hr : Signs (nums (A ++ X ++ parS q g x c))) :
    Calls Tryd.prog 13 #[.string (A ++ X ++ parS q g x c), .int .i64 ((A.size : Int) + (X.size : Int))] w fun e w' => e = .returned (.tuple #[.agg #[.int .i64 q, .bool g, .bool x, .bool c], .int .i64 ((A.size : Int) + (X.size : Int) + 9), .bool true]) ∧ Below w.heap.size w w' := by
  have h := implReadPar (A ++ X ++ parS q g x c) ((A.size : Int) + (X.size : Int)) w (by unfold maxLen; omega) hE
  have e := par_back (A ++ X ++ parS q g x c) (A ++ X) q g x c okP (rowOkB_of _ hz hr) rfl
  rw [ByteArray.size_append, Int.natCast_add] at e
  rwa [e] at h

set_option maxHeartbeats 6400000 in
theorem fnSets_walk (a : Option Addr) (len cap : Nat) (w : World) (hE : ErrT w) (hc : 1048576 < (len : Int) ∨ CodeIn w a len cap) :
    Calls Tryd.prog 3 #[.slice a len cap] w fun e w' => e = .returned (.bool true) ∧ Below w.heap.size w w' := by
  rcases hc with hbig | ⟨hlen, hnil, hrow⟩
  · go_enter Tryd.func3, Tryd.ntmps3
    go_wp2_with (go_at_call 7; refine (big_yes a len cap _ hbig).mono ?_; rintro e w1 ⟨rfl, hw⟩; subst w1)
    go_ret
    exact ⟨rfl, Below.refl _ _⟩
  have HRow : Hid (CodeRow w w.heap.size a len) := hrow
  obtain ⟨zs, hzl, hcv⟩ := codeV_of hrow
  have HCV : Hid (CodeV w w.heap.size a zs) := hcv
  have E : Hid (ErrT w) := hE
  -- the drawn values
  have okS := (ri_ok zs (newF zs)).1
  have n1 := (ri_ok zs (newF zs)).2.1
  have n2 := (ri_ok zs (newF zs)).2.2.1
  have okP := pi_ok zs (riE zs (newF zs))
  have CD : Hid (∀ w', Below w.heap.size w w' → Calls Tryd.prog 8 #[.slice a len cap] w' _) := fun w' hb => by
    rw [← hzl]; exact drawSets_val a cap w.heap.size zs w' (HCV.out.below hb) hb.size
  clear hrow hcv hE hzl
  generalize riL zs (newF zs) = l at *
  generalize riB zs (newF zs) = b at *
  generalize riX zs (newF zs) = xs at *
  generalize riY zs (newF zs) = ys at *
  generalize piQ zs (riE zs (newF zs)) = q at *
  generalize (piT zs (riE zs (newF zs)) == 0) = g at *
  generalize (piT zs (riE zs (newF zs)) == 1) = x at *
  generalize piC zs (riE zs (newF zs)) = c at *
  have m1 : xs.length ≤ maxLen := by unfold maxLen; omega
  have m2 : ys.length ≤ maxLen := by unfold maxLen; omega
  go_enter Tryd.func3, Tryd.ntmps3
  go_wp2_with (go_at_call 7; refine (big_any a len cap _ hlen).mono ?_; rintro e w1 ⟨rfl, hw⟩; subst w1)
  refine (CD.out w (Below.refl _ _)).mono ?_
  rintro e w1 ⟨a1, a2, c1, c2, t, f, qq, rfl, i1, i2, hb1⟩
  go_wp2_with fail
  generalize hW : World.alloc (World.alloc (World.alloc w1 _) _) _ = W
  have hs : W.heap.size = w1.heap.size + 3 := by rw [← hW]; simp
  have B3 : Blk W w1.heap.size #[.int .i64 l, .int .i64 b, .slice a1 xs.length c1, .slice a2 ys.length c2] 26 := by rw [← hW]; exact ((Blk.new w1 _ _).alloc _).alloc _
  have B4 : Blk W (w1.heap.size + 1) #[.int .i64 q, .bool g, .bool x, .bool c] 28 := by rw [← hW]; exact (Blk.new' _ _ (by simp)).alloc _
  have hbW : Below w1.heap.size w1 W := by rw [← hW]; exact (((Below.refl _ _).alloc (Nat.le_refl _) _).alloc (by simp) _).alloc (by simp; omega) _
  clear hW
  have hb2 := hb1.trans (hbW.mono hb1.size)
  have J : Hid (Ints W a1 xs ∧ Ints W a2 ys) := ⟨i1.below hbW (Nat.le_refl _), i2.below hbW (Nat.le_refl _)⟩
  have g0 := hb1.size
  clear i1 i2 hbW hb1
  refine (CD.out W hb2).mono ?_
  rintro e w2 ⟨a3, a4, c3, c4, t', f', q', rfl, i3, i4, hc⟩
  have hb3 := hb2.trans (hc.mono hb2.size)
  have C3 := B3.below hc B3.lt
  have C4 := B4.below hc B4.lt
  have J2 : Hid ((Ints w2 a1 xs ∧ Ints w2 a2 ys) ∧ (Ints w2 a3 xs ∧ Ints w2 a4 ys)) := ⟨⟨J.out.1.below hc (Nat.le_refl _), J.out.2.below hc (Nat.le_refl _)⟩, i3, i4⟩
  have g1 := hc.size
  clear hb2 hc B3 B4 J i3 i4 CD
  go_wp2_with fail
  generalize hW : World.alloc (World.alloc (World.alloc w2 _) _) _ = U
  have hs2 : U.heap.size = w2.heap.size + 3 := by rw [← hW]; simp
  have B6 : Blk U w2.heap.size #[.int .i64 l, .int .i64 b, .slice a3 xs.length c3, .slice a4 ys.length c4] 26 := by rw [← hW]; exact ((Blk.new w2 _ _).alloc _).alloc _
  have B7 : Blk U (w2.heap.size + 1) #[.int .i64 q, .bool g, .bool x, .bool c] 28 := by rw [← hW]; exact (Blk.new' _ _ (by simp)).alloc _
  have hbU : Below w2.heap.size w2 U := by rw [← hW]; exact (((Below.refl _ _).alloc (Nat.le_refl _) _).alloc (by simp) _).alloc (by simp; omega) _
  clear hW
  have hb4 := hb3.trans (hbU.mono hb3.size)
  have B3 := C3.below hbU C3.lt
  have B4 := C4.below hbU C4.lt
  have J3 : Hid (∀ w', Below U.heap.size U w' → (Ints w' a1 xs ∧ Ints w' a2 ys) ∧ (Ints w' a3 xs ∧ Ints w' a4 ys)) := fun w' hb => by
    have h := J2.out
    have hb' := hbU.trans (hb.mono hbU.size)
    exact ⟨⟨h.1.1.below hb' (Nat.le_refl _), h.1.2.below hb' (Nat.le_refl _)⟩, h.2.1.below hb' (Nat.le_refl _), h.2.2.below hb' (Nat.le_refl _)⟩
  have HE : Hid (∀ w', Below w.heap.size w w' → ErrT w') := fun w' hb => E.out.below hb (Nat.le_refl _)
  clear C3 C4 hb3 hbU J2 E
  generalize w1.heap.size = k1 at *
  generalize w2.heap.size = k2 at *
  refine (drawRow_any a len cap w.heap.size U (HRow.out.below hb4) hb4.size).mono ?_
  rintro e w3 ⟨lA, rfl, hlA, sA, hc⟩
  have hzA : (strOfNums lA).size ≤ 60 := by rw [strOfNums_size]; exact hlA
  have hsA : Signs (nums (strOfNums lA)) := by rw [nums_of _ (Signs.bd sA)]; exact sA
  generalize strOfNums lA = A at *
  have D3 := B3.below hc B3.lt
  have D4 := B4.below hc B4.lt
  have D6 := B6.below hc B6.lt
  have D7 := B7.below hc B7.lt
  have hb5 := hb4.trans (hc.mono hb4.size)
  have hU : Below U.heap.size U w3 := hc
  clear hc B3 B4 B6 B7 hb4 HRow HCV hlA sA
  obtain ⟨⟨x0, x1, x2, x3⟩, l0, l1, l2, l3⟩ := D3.four
  obtain ⟨⟨y0, y1, y2, y3⟩, j0, j1, j2, j3⟩ := D4.four
  go_wp2_with fail
  have hJ := J3.out w3 hU
  refine (implSeqRow l b a1 a2 c1 c2 xs ys w3 (HE.out w3 hb5) hJ.1.1 hJ.1.2 m1 m2 okS).mono ?_
  rintro e w4 ⟨rfl, hc⟩
  have hzX := seqS_size okS
  have hsX := seqS_signs l b xs ys
  have hb6 := hb5.trans (hc.mono hb5.size)
  have hU4 := hU.trans (hc.mono hU.size)
  have C4 := D4.below hc D4.lt
  have C6 := D6.below hc D6.lt
  have C7 := D7.below hc D7.lt
  clear hJ hb5 hU D3 D4 D6 D7 x0 x1 x2 x3 l0 l1 l2 l3 y0 y1 y2 y3 j0 j1 j2 j3 hc
  obtain ⟨⟨y0, y1, y2, y3⟩, j0, j1, j2, j3⟩ := C4.four
  go_wp2_with fail
  refine (implParRow q g x c w4 (HE.out w4 hb6) okP).mono ?_
  rintro e w5 ⟨rfl, hc⟩
  have hzP := parS_size q g x c
  have hsP := parS_signs q g x c
  have hb7 := hb6.trans (hc.mono hb6.size)
  have hU5 := hU4.trans (hc.mono hU4.size)
  have D6 := C6.below hc C6.lt
  have D7 := C7.below hc C7.lt
  clear hb6 hU4 C4 C6 C7 y0 y1 y2 y3 j0 j1 j2 j3 hc
  have hrow : Signs (nums (A ++ seqS l b xs ys ++ parS q g x c)) := by rw [nums_append, nums_append]; exact (hsA.append hsX).append hsP
  have hsz : (A ++ seqS l b xs ys ++ parS q g x c).size ≤ 400000 := by rw [ByteArray.size_append, ByteArray.size_append]; omega
  have HS : Hid (∀ w', Below w.heap.size w w' → Calls Tryd.prog 12 #[.string (A ++ seqS l b xs ys ++ parS q g x c), .int .i64 (A.size : Int)] w' _) := fun w' hb => readSeq_put A _ l b xs ys w' (HE.out w' hb) okS hsz hrow
  have HP : Hid (∀ w', Below w.heap.size w w' → Calls Tryd.prog 13 #[.string (A ++ seqS l b xs ys ++ parS q g x c), .int .i64 ((A.size : Int) + ((seqS l b xs ys).size : Int))] w' _) := fun w' hb => readPar_put A _ q g x c w' (HE.out w' hb) okP hsz hrow
  generalize seqS l b xs ys = X at *
  generalize parS q g x c = Y at *
  have e1 : ¬ (9223372036854775807 : Int) < ((A ++ X).size : Int) := by rw [ByteArray.size_append]; omega
  have e2 : ¬ (9223372036854775807 : Int) < ((A ++ X ++ Y).size : Int) := by rw [ByteArray.size_append, ByteArray.size_append]; omega
  clear hsA hsX hsP hrow hsz HE okS okP
  go_wp2_with fail
  refine (HS.out w5 hb7).mono ?_
  rintro e w6 ⟨a5, a6, c5, c6, rfl, i5, i6, hc⟩
  have hb8 := hb7.trans (hc.mono hb7.size)
  have hU6 := hU5.trans (hc.mono hU5.size)
  have C6 := D6.below hc D6.lt
  have C7 := D7.below hc D7.lt
  clear hb7 hU5 D6 D7 hc HS
  go_wp2_with fail
  have B14 := Blk.new w6 #[.int .i64 l, .int .i64 b, .slice a5 xs.length c5, .slice a6 ys.length c6] 26
  have hcA := (Below.refl w6.heap.size w6).alloc (Nat.le_refl _) (.cells #[.int .i64 l, .int .i64 b, .slice a5 xs.length c5, .slice a6 ys.length c6] 26)
  have hbA := hb8.trans (hcA.mono hb8.size)
  have hUA := hU6.trans (hcA.mono hU6.size)
  have D6 := C6.below hcA C6.lt
  have D7 := C7.below hcA C7.lt
  have I5 : Hid (Ints _ a5 xs ∧ Ints _ a6 ys) := ⟨i5.below hcA (Nat.le_refl _), i6.below hcA (Nat.le_refl _)⟩
  clear hcA hb8 hU6 C6 C7 i5 i6
  generalize w6.alloc _ = w7 at *
  generalize w6.heap.size = k6 at *
  refine (HP.out w7 hbA).mono ?_
  rintro e w8 ⟨rfl, hc⟩
  have hb9 := hbA.trans (hc.mono hbA.size)
  have hU8 := hUA.trans (hc.mono hUA.size)
  have C6 := D6.below hc D6.lt
  have C7 := D7.below hc D7.lt
  have C14 := B14.below hc B14.lt
  have I8 : Hid (Ints w8 a5 xs ∧ Ints w8 a6 ys) := ⟨I5.out.1.below hc (Nat.le_refl _), I5.out.2.below hc (Nat.le_refl _)⟩
  clear hc hbA hUA D6 D7 B14 I5 HP
  -- the new par
  have P17 := Blk.new w8 #[.int .i64 q, .bool g, .bool x, .bool c] 28
  have hcA := (Below.refl w8.heap.size w8).alloc (Nat.le_refl _) (.cells #[.int .i64 q, .bool g, .bool x, .bool c] 28)
  have hbA := hb9.trans (hcA.mono hb9.size)
  have hUA := hU8.trans (hcA.mono hU8.size)
  have D6 := C6.below hcA C6.lt
  have D7 := C7.below hcA C7.lt
  have D14 := C14.below hcA C14.lt
  have I9 : Hid (∀ w', w' = w8.alloc (.cells #[.int .i64 q, .bool g, .bool x, .bool c] 28) → Ints w' a5 xs ∧ Ints w' a6 ys) := fun w' e => by subst e; exact ⟨I8.out.1.below hcA (Nat.le_refl _), I8.out.2.below hcA (Nat.le_refl _)⟩
  have J9 : Hid (∀ w', w' = w8.alloc (.cells #[.int .i64 q, .bool g, .bool x, .bool c] 28) → Ints w' a3 xs ∧ Ints w' a4 ys) := fun w' e => by subst e; exact (J3.out _ hUA).2
  clear hcA hb9 hU8 hUA C6 C7 C14 I8 J3
  obtain ⟨⟨x0, x1, x2, x3⟩, l0, l1, l2, l3⟩ := D6.four
  obtain ⟨⟨z0, z1, z2, z3⟩, j0, j1, j2, j3⟩ := D14.four
  have s1 : (A.size : Int) + (X.size : Int) ≤ 660 := by omega
  have s0 : (0 : Int) ≤ (A.size : Int) + (X.size : Int) := by omega
  go_wp2_with fail
  have hI := I9.out _ rfl
  have hJ := J9.out _ rfl
  refine (sameSeq_any l b a5 a6 a3 a4 c5 c6 c3 c4 xs ys _ hI.1 hI.2 hJ.1 hJ.2 (by omega) (by omega)).mono ?_
  clear hI hJ I9 J9
  generalize w8.alloc _ = w9 at *
  generalize w8.heap.size = k8 at *
  rintro e w10 ⟨rfl, hc⟩
  have hbZ := hbA.trans (hc.mono hbA.size)
  have F7 := D7.below hc D7.lt
  have F17 := P17.below hc P17.lt
  clear hc hbA D6 D7 D14 P17 x0 x1 x2 x3 l0 l1 l2 l3 z0 z1 z2 z3 j0 j1 j2 j3
  obtain ⟨⟨x0, x1, x2, x3⟩, l0, l1, l2, l3⟩ := F7.four
  obtain ⟨⟨z0, z1, z2, z3⟩, j0, j1, j2, j3⟩ := F17.four
  go_wp2_with fail
  go_ret
  exact ⟨rfl, hbZ⟩
end Go.Proofs.YtafcdncljcbdcaaDoor
