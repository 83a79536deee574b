/-
  The walk of laws.FnHeads: a drawn right head comes back from its unit, with what stands behind it.
-/
import Derived.Test.YtdokmojifkggjaaDoorHeadPut
import Derived.Test.YtdokmojifkggjaaDoorHeadDrawR
import Derived.Test.YtdokmojifkggjaaDoorMDrawWalks
import Derived.Test.YtdokmojifkggjaaDoorCodeKit
import Derived.Test.YtdokmojifkggjaaDoorCodeVal
namespace Go.Proofs.YtdokmojifkggjaaDoor
open Go.RowKit
set_option linter.unusedVariables false
set_option maxRecDepth 20000

set_option maxHeartbeats 6400000 in
theorem fnHeads_walk (a : Option Addr) (len cap : Nat) (w : World) (hE : ErrT w) (hc : 1048576 < (len : Int) ∨ CodeIn w a len cap) :
    Calls Tryd.prog 3 #[.slice a len cap] w fun e w' => e = .returned (.bool true) ∧ Below w.heap.size w w' := by
  rcases hc with hbig | ⟨hlen, hnil, hrow⟩
  · go_enter Tryd.func3, Tryd.ntmps3
    go_wp2_with (go_at_call 7; refine (big_yes a len cap _ hbig).mono ?_; rintro e w1 ⟨rfl, hw⟩; subst w1)
    go_ret
    exact ⟨rfl, Below.refl _ _⟩
  have HRow : Hid (CodeRow w w.heap.size a len) := hrow
  obtain ⟨zs, hzl, hcv⟩ := codeV_of hrow
  have HCV : Hid (CodeV w w.heap.size a zs) := hcv
  have HE : Hid (∀ w', Below w.heap.size w w' → ErrT w') := fun w' hb => hE.below hb (Nat.le_refl _)
  have okS := (ri_ok zs (newF zs)).1
  have n1 := (ri_ok zs (newF zs)).2.1
  have n2 := (ri_ok zs (newF zs)).2.2.1
  have okP := pi_ok zs (riE zs (newF zs))
  have CD : Hid (∀ w', Below w.heap.size w w' → Calls Tryd.prog 8 #[.slice a len cap] w' _) := fun w' hb => by
    rw [← hzl]; exact drawSets_val a cap w.heap.size zs w' (HCV.out.below hb) hb.size
  clear hrow hcv hE hzl
  generalize riL zs (newF zs) = l at *
  generalize riB zs (newF zs) = b at *
  generalize riX zs (newF zs) = xs at *
  generalize riY zs (newF zs) = ys at *
  generalize piQ zs (riE zs (newF zs)) = q at *
  generalize (piT zs (riE zs (newF zs)) == 0) = g at *
  generalize (piT zs (riE zs (newF zs)) == 1) = x at *
  generalize piC zs (riE zs (newF zs)) = c at *
  have M : Hid (xs.length ≤ maxLen ∧ ys.length ≤ maxLen) := ⟨by unfold maxLen; omega, by unfold maxLen; omega⟩
  go_enter Tryd.func3, Tryd.ntmps3
  go_wp2_with (go_at_call 7; refine (big_any a len cap _ hlen).mono ?_; rintro e w1 ⟨rfl, hw⟩; subst w1)
  refine (CD.out w (Below.refl _ _)).mono ?_
  rintro e w1 ⟨a1, a2, c1, c2, t, f, k, rfl, hin, i1, i2, hb1⟩
  have hh : headB l b xs ys q g x t f k = true := by
    obtain ⟨⟨t0, t1⟩, ⟨f0, f1⟩, k0, k1⟩ := hin
    unfold headB
    rw [okP, tilesI_yes okS]
    simp [t0, t1, f0, f1, k0, k1]
  have HH : Hid (headB l b xs ys q g x t f k = true) := hh
  clear hin okS okP CD HCV hh
  go_wp2_with fail
  generalize hW : World.alloc (World.alloc (World.alloc w1 _) _) _ = W
  have hs : W.heap.size = w1.heap.size + 3 := by rw [← hW]; simp
  have S1 : Blk W w1.heap.size #[.int .i64 l, .int .i64 b, .slice a1 xs.length c1, .slice a2 ys.length c2] 26 := by rw [← hW]; exact ((Blk.new w1 _ _).alloc _).alloc _
  have P1 : Blk W (w1.heap.size + 1) #[.int .i64 q, .bool g, .bool x, .bool c] 28 := by rw [← hW]; exact (Blk.new' _ _ (by simp)).alloc _
  have H1 : Blk W (w1.heap.size + 1 + 1) #[.int .i64 t, .int .i64 f, .int .i64 k] 30 := by rw [← hW]; exact Blk.new' _ _ (by simp)
  have hbW : Below w1.heap.size w1 W := by rw [← hW]; exact (((Below.refl _ _).alloc (Nat.le_refl _) _).alloc (by simp) _).alloc (by simp; omega) _
  clear hW
  have hb2 := hb1.trans (hbW.mono hb1.size)
  have SI : Hid (∀ w', Below W.heap.size W w' → SetIn w' a1 a2 xs ys) := fun w' hb => ⟨⟨(i1.below hbW (Nat.le_refl _)).below hb (Nat.le_refl _), (i2.below hbW (Nat.le_refl _)).below hb (Nat.le_refl _), HE.out _ (hb2.trans (hb.mono hb2.size))⟩, M.out⟩
  clear i1 i2 hbW hb1
  generalize w1.heap.size = k1 at *
  refine (drawRow_any a len cap w.heap.size W (HRow.out.below hb2) hb2.size).mono ?_
  rintro e w3 ⟨lA, rfl, hlA, sA, hc⟩
  have hzA : (strOfNums lA).size ≤ 60 := by rw [strOfNums_size]; exact hlA
  have hsA : Signs (nums (strOfNums lA)) := by rw [nums_of _ (Signs.bd sA)]; exact sA
  generalize strOfNums lA = A at *
  have S3 := S1.below hc S1.lt
  have P3 := P1.below hc P1.lt
  have H3 := H1.below hc H1.lt
  have hb3 := hb2.trans (hc.mono hb2.size)
  have q3 : Below W.heap.size W w3 := hc
  clear hc S1 P1 H1 hb2 HRow hlA sA
  -- what is written and read
  obtain ⟨hp, ⟨t0, t1⟩, ⟨f0, f1⟩, y0, y1⟩ := headB_true HH.out
  obtain ⟨_, _, b0, b1⟩ := seqB_true (headB_seq HH.out)
  obtain ⟨q0, q1⟩ := parB_bd hp
  have t2 := tilesI_bd l b xs ys
  have zX : (headS b.toNat t f (k - q)).size ≤ 90 := by
    unfold headS
    have := ueS_small t t0 (by omega)
    have sb := seF_bd (k - q) ⟨by omega, by omega⟩
    have := ueS_small (seF (k - q)) sb.1 sb.2
    rw [ByteArray.size_append, ByteArray.size_append, strOfNums_size, fixL_length]
    omega
  have hrow : Signs (nums (headS b.toNat t f (k - q) ++ A)) := by rw [nums_append]; exact (headS_signs _ _ _ _).append hsA
  have hsz : (headS b.toNat t f (k - q) ++ A).size ≤ 400000 := by rw [ByteArray.size_append]; omega
  have hok := rowOkB_of _ hsz hrow
  have CW : Hid (∀ w', Below W.heap.size W w' → Calls Tryd.prog 10 #[.agg #[.int .i64 l, .int .i64 b, .slice a1 xs.length c1, .slice a2 ys.length c2], .agg #[.int .i64 q, .bool g, .bool x, .bool c], .agg #[.int .i64 t, .int .i64 f, .int .i64 k]] w' fun e w'' => e = .returned (.tuple #[.string (headS b.toNat t f (k - q)), .bool true]) ∧ Below w'.heap.size w' w'') := fun w' hb => implHeadRow l b a1 a2 c1 c2 xs ys q g x c t f k w' (SI.out _ hb) HH.out
  have CK : Hid (∀ w', Below W.heap.size W w' → Calls Tryd.prog 14 #[.agg #[.int .i64 l, .int .i64 b, .slice a1 xs.length c1, .slice a2 ys.length c2], .agg #[.int .i64 q, .bool g, .bool x, .bool c], .agg #[.int .i64 t, .int .i64 f, .int .i64 k]] w' fun e w'' => e = .returned (.bool true) ∧ Below w'.heap.size w' w'') := fun w' hb => by rw [← HH.out]; exact implHeadOk l b a1 a2 c1 c2 xs ys q g x c t f k w' (SI.out _ hb)
  have CU : Hid (∀ w', Calls Tryd.prog 11 #[.int .i64 5, .string (headS b.toNat t f (k - q) ++ A)] w' fun e w'' => e = .returned (.tuple #[.string (unitS 5 (headS b.toNat t f (k - q) ++ A)), .bool true]) ∧ Below w'.heap.size w' w'') := fun w' => implUnitOf 5 _ w' (by decide) hok
  have CI : Hid (∀ w', Calls Tryd.prog 12 #[.string (unitS 5 (headS b.toNat t f (k - q) ++ A))] w' fun e w'' => e = .returned (.tuple #[.int .i64 5, .string (headS b.toNat t f (k - q) ++ A), .bool true]) ∧ Below w'.heap.size w' w'') := fun w' => unitIn_put 5 _ w' (by decide) hok
  have CR : Hid (∀ w', Below W.heap.size W w' → Calls Tryd.prog 13 #[.agg #[.int .i64 l, .int .i64 b, .slice a1 xs.length c1, .slice a2 ys.length c2], .agg #[.int .i64 q, .bool g, .bool x, .bool c], .string (headS b.toNat t f (k - q) ++ A)] w' fun e w'' => e = .returned (.tuple #[.agg #[.int .i64 t, .int .i64 f, .int .i64 k], .int .i64 ((headS b.toNat t f (k - q)).size : Int), .bool true]) ∧ Below w'.heap.size w' w'') := fun w' hb => readHead_put l b a1 a2 c1 c2 xs ys q g x c t f k A w' (SI.out _ hb) HH.out hsz hrow
  generalize headS b.toNat t f (k - q) = X at *
  generalize unitS 5 (X ++ A) = U at *
  have e1 : ¬ (9223372036854775807 : Int) < ((X ++ A).size : Int) := by rw [ByteArray.size_append]; omega
  have e2 : ¬ 9223372036854775807 < X.size + A.size := by omega
  have e3 : (X ++ A).extract X.size (X.size + A.size) = A := ByteArray.extract_append_eq_right rfl rfl
  have e4 : (X ++ A).extract X.size (X ++ A).size = A := ByteArray.extract_append_eq_right rfl ByteArray.size_append
  clear hp t0 t1 f0 f1 y0 y1 b0 b1 q0 q1 t2 hrow hsz hok HH SI HE M hsA
  obtain ⟨⟨x0, x1, x2, x3⟩, _⟩ := S3.four
  obtain ⟨⟨p0, p1, p2, p3⟩, _⟩ := P3.four
  obtain ⟨⟨j0, j1, j2⟩, _⟩ := H3.three
  go_wp2_with fail
  refine (CW.out w3 q3).mono ?_
  rintro e w4 ⟨rfl, hc⟩
  have S4 := S3.below hc S3.lt
  have P4 := P3.below hc P3.lt
  have H4 := H3.below hc H3.lt
  have hb4 := hb3.trans (hc.mono hb3.size)
  have q4 := q3.trans (hc.mono q3.size)
  clear hc S3 P3 H3 hb3 q3 x0 x1 x2 x3 p0 p1 p2 p3 j0 j1 j2 CW
  go_wp2_with fail
  refine (CU.out w4).mono ?_
  rintro e w5 ⟨rfl, hc⟩
  have S5 := S4.below hc S4.lt
  have P5 := P4.below hc P4.lt
  have H5 := H4.below hc H4.lt
  have hb5 := hb4.trans (hc.mono hb4.size)
  have q5 := q4.trans (hc.mono q4.size)
  clear hc S4 P4 H4 hb4 q4 CU
  go_wp2_with fail
  refine (CI.out w5).mono ?_
  rintro e w6 ⟨rfl, hc⟩
  have S6 := S5.below hc S5.lt
  have P6 := P5.below hc P5.lt
  have H6 := H5.below hc H5.lt
  have hb6 := hb5.trans (hc.mono hb5.size)
  have q6 := q5.trans (hc.mono q5.size)
  clear hc S5 P5 H5 hb5 q5 CI
  obtain ⟨⟨x0, x1, x2, x3⟩, _⟩ := S6.four
  obtain ⟨⟨p0, p1, p2, p3⟩, _⟩ := P6.four
  go_wp2_with fail
  refine (CR.out w6 q6).mono ?_
  rintro e w7 ⟨rfl, hc⟩
  have S7 := S6.below hc S6.lt
  have P7 := P6.below hc P6.lt
  have H7 := H6.below hc H6.lt
  have hb7 := hb6.trans (hc.mono hb6.size)
  have q7 := q6.trans (hc.mono q6.size)
  have gh7 := H7.lt
  clear hc S6 P6 H6 hb6 q6 CR x0 x1 x2 x3 p0 p1 p2 p3
  have G8 := Blk.new w7 #[.int .i64 t, .int .i64 f, .int .i64 k] 30
  have al := (Below.refl w7.heap.size w7).alloc (Nat.le_refl _) (.cells #[.int .i64 t, .int .i64 f, .int .i64 k] 30)
  have S8 := S7.below al S7.lt
  have P8 := P7.below al P7.lt
  have H8 := H7.below al H7.lt
  have hb8 := hb7.trans (al.mono hb7.size)
  have q8 := q7.trans (al.mono q7.size)
  clear al S7 P7 H7 hb7 q7 hs
  obtain ⟨⟨x0, x1, x2, x3⟩, _⟩ := S8.four
  obtain ⟨⟨p0, p1, p2, p3⟩, _⟩ := P8.four
  obtain ⟨⟨j0, j1, j2⟩, _⟩ := H8.three
  go_wp2_with fail
  refine (CK.out _ q8).mono ?_
  rintro e w9 ⟨rfl, hc⟩
  have H9 := H8.below hc H8.lt
  have G9 := G8.below hc G8.lt
  have hb9 := hb8.trans (hc.mono hb8.size)
  clear hc S8 P8 H8 G8 hb8 q8 CK x0 x1 x2 x3 p0 p1 p2 p3 j0 j1 j2
  obtain ⟨⟨j0, j1, j2⟩, _⟩ := H9.three
  obtain ⟨⟨y0, y1, y2⟩, _⟩ := G9.three
  have zB : ((X ++ A).size : Int) = (X.size : Int) + (A.size : Int) := by rw [ByteArray.size_append, Int.natCast_add]
  have zL : (X.size : Int) ≤ ((X ++ A).size : Int) := by omega
  go_wp2
  go_ret
  exact ⟨rfl, hb9⟩
end Go.Proofs.YtdokmojifkggjaaDoor
