/-
  The walk of laws.FnExactReadSquare.
-/
import Derived.Test.YtnlbigjfnjcldaaGreatSquareReads
import Derived.Test.YtnlbigjfnjcldaaGreatIntAll
namespace Go.Proofs.YtnlbigjfnjcldaaGreat
open Go.RowKit
set_option linter.unusedVariables false
set_option maxRecDepth 20000

theorem stR_le (st : LSt) (kd md dx dy : Int) : (stL (stR st kd md dx dy)).length ≤ 64 := by
  cases st with
  | none => exact Nat.zero_le _
  | some r =>
    obtain ⟨f, e⟩ := r
    show (stL (if sqOkB kd md dx dy (listF 64 f) = true then some ((kd, md, dx, dy, listF 64 f), e) else none)).length ≤ 64
    split
    · exact Nat.le_of_eq (listF_length _ _)
    · exact Nat.zero_le _
theorem sqR_le (F : Nat → Option (Int × Nat)) (k g x : Bool) (p : Nat) : (stL (sqR F k g x p)).length ≤ 64 := by
  cases k with
  | true =>
    cases h : F p with
    | none => rw [sqR_k0 h]; exact Nat.zero_le _
    | some r => rw [sqR_k1 (md := r.1) (p2 := r.2) h]; exact stR_le _ _ _ _ _
  | false =>
    cases h : F p with
    | none => rw [sqR_n0 h]; exact Nat.zero_le _
    | some r =>
      obtain ⟨kd, p1⟩ := r
      by_cases h0 : kd = 0
      · subst h0
        rw [sqR_s h]; exact Nat.zero_le _
      by_cases h1 : kd = 1
      · subst h1
        cases h3 : F p1 with
        | none => rw [sqR_m0 h h3]; exact Nat.zero_le _
        | some r =>
          cases h4 : F r.2 with
          | none => rw [sqR_m1 (u := r.1) (p2 := r.2) h h3 h4]; exact Nat.zero_le _
          | some r' => rw [sqR_m2 (u := r.1) (p2 := r.2) (v := r'.1) (p3 := r'.2) h h3 h4]; exact stR_le _ _ _ _ _
      by_cases h2 : kd = 2
      · subst h2
        cases h3 : F p1 with
        | none => rw [sqR_g0 h h3]; exact Nat.zero_le _
        | some r => rw [sqR_g1 (md := r.1) (p2 := r.2) h h3]; exact stR_le _ _ _ _ _
      · rw [sqR_b h h0 h1 h2]; exact Nat.zero_le _
theorem rqSt_le (F : Nat → Option (Int × Nat)) (s : ByteArray) (a : Int) (k : Bool) (q : Int) (g x : Bool) : (stL (rqSt F s a k q g x)).length ≤ 64 := by
  unfold rqSt
  split
  · exact sqR_le _ _ _ _ _
  · exact Nat.zero_le _

set_option maxHeartbeats 800000 in
theorem markSquare_any (kd md dx dy : Int) (a : Option Addr) (c B : Nat) (xs : List Int) (k : Int) (w : World) (ho : w.ownsRow B 3 1 (.slice a xs.length c) xs.length (xs.map (Value.int .i64))) (hn : xs.length ≤ 2000000) (hk0 : 0 ≤ k) (hk1 : k ≤ 3000000) :
    Calls Tryz.prog 21 #[sqV kd md dx dy a xs.length c, .int .i64 k] w fun e w' => e = .returned (.int .i64 (k + (xs.length : Int))) ∧ w'.ownsRow B 3 1 (.slice a xs.length c) xs.length ((marksI k xs.length).map (Value.int .i64)) ∧ w.grownBy w' (Value.slice a xs.length c).ownBlock := by
  have B0 := Blk.new w (sqC kd md dx dy a xs.length c) 34
  have g0 := World.grownBy_alloc w (.cells (sqC kd md dx dy a xs.length c) 34) (Value.slice a xs.length c).ownBlock
  have C1 : Hid (Calls Tryz.prog 45 #[.slice a xs.length c, .int .i64 k] (w.alloc (.cells (sqC kd md dx dy a xs.length c) 34)) fun e w' => e = .returned (.int .i64 (k + (xs.length : Int))) ∧ w'.ownsRow B 3 1 (.slice a xs.length c) xs.length ((marksI k xs.length).map (Value.int .i64)) ∧ (w.alloc (.cells (sqC kd md dx dy a xs.length c) 34)).grownBy w' (Value.slice a xs.length c).ownBlock) := markIntS_any a c B xs k _ (ho.alloc _) hn hk0 hk1
  clear ho
  go_enter Tryz.func21, Tryz.ntmps21
  go_wp2_with (go_at_call 45; refine C1.out.mono ?_; rintro e w1 ⟨rfl, h1, h2⟩)
  go_ret
  exact ⟨rfl, h1, g0.trans h2⟩
set_option maxHeartbeats 800000 in
theorem heldSquare_any (kd md dx dy : Int) (a : Option Addr) (n c : Nat) (k : Int) (w : World) (hi : Ints w a (marksI k n)) (hn : n ≤ 2000000) (hk0 : 0 ≤ k) (hk1 : k ≤ 1000000) :
    Calls Tryz.prog 22 #[sqV kd md dx dy a n c, .int .i64 k] w fun e w' => e = .returned (.int .i64 (k + (n : Int))) ∧ Below w.heap.size w w' := by
  have hb := (Below.refl w.heap.size w).alloc (Nat.le_refl _) (.cells (sqC kd md dx dy a n c) 34)
  have C1 : Hid (∀ w', Below w.heap.size w w' → Calls Tryz.prog 46 #[.slice a n c, .int .i64 k] w' fun e w'' => e = .returned (.int .i64 (k + (n : Int))) ∧ w'' = w') := fun w' hb => heldIntS_any a n c k w' (hi.below hb (Nat.le_refl _)) hn hk0 hk1
  have r0 : ¬ (k + (n : Int) < 0) := by omega
  clear hi
  go_enter Tryz.func22, Tryz.ntmps22
  go_wp2_with (go_at_call 46; refine (C1.out _ hb).mono ?_; rintro e w1 ⟨rfl, hw⟩; subst w1)
  go_ret
  exact ⟨rfl, hb⟩

set_option maxHeartbeats 3200000 in
theorem fnExactReadSquare_walk (s : ByteArray) (a : Int) (k : Bool) (q : Int) (g x : Bool) (w : World) (hm : s.size ≤ maxLen) :
    Calls Tryz.prog 5 #[.string s, .int .i64 a, conV k q g x] w fun e w' => e = .returned (.bool true) ∧ Below w.heap.size w w' := by
  have B0 := Blk.new w #[.bool k, .int .i64 q, .bool g, .bool x] 41
  have hb0 := (Below.refl w.heap.size w).alloc (Nat.le_refl _) (.cells #[.bool k, .int .i64 q, .bool g, .bool x] 41)
  have hm' := hm
  unfold maxLen at hm'
  by_cases hbig : 1048576 < s.size
  · go_enter Tryz.func5, Tryz.ntmps5
    go_wp2
    go_ret
    exact ⟨rfl, hb0⟩
  obtain ⟨F, hF⟩ := isCnt_exists s
  have hZn := rqSt_le F s a k q g x
  have CC : Hid (∀ w', Calls Tryz.prog 18 #[conV k q g x] w' fun e w'' => e = .returned (conV k q g x) ∧ Below w'.heap.size w' w'') := fun w' => toCond_any k q g x w'
  have CS : Hid (∀ w', Calls Tryz.prog 20 #[.string s, .int .i64 a, conV k q g x] w' (fun e w'' => SqSt w' w'' e (rqSt F s a k q g x))) := fun w' => specReadSquare hF a k q g x w' hm
  have CI : Hid (∀ w', Calls Tryz.prog 11 #[.string s, .int .i64 a, conV k q g x] w' (fun e w'' => SqSt w' w'' e (rqSt F s a k q g x))) := fun w' => implReadSquare hF a k q g x w' hm
  clear hF
  generalize rqSt F s a k q g x = st at *
  unfold SqSt SqAns at CS CI
  generalize stE st = E at *
  generalize stB st = Y at *
  generalize stK st = kd at *
  generalize stM st = md at *
  generalize stX st = dx at *
  generalize stY st = dy at *
  generalize stL st = Z at *
  have n64 : (Z.length : Int) ≤ 64 := by omega
  go_enter Tryz.func5, Tryz.ntmps5
  go_wp2_with fail
  generalize World.alloc w _ = V at *
  have BK : Hid (∀ w', Below V.heap.size V w' → (w'.cell? ⟨w.heap.size, 0, none⟩ = some (.bool k) ∧ w'.cell? ⟨w.heap.size, 1, none⟩ = some (.int .i64 q) ∧ w'.cell? ⟨w.heap.size, 2, none⟩ = some (.bool g) ∧ w'.cell? ⟨w.heap.size, 3, none⟩ = some (.bool x))) := fun w' h => (B0.below h B0.lt).four.1
  clear B0
  have hbs := hb0.size
  refine (CC.out V).mono ?_
  rintro e w01 ⟨rfl, hv1⟩
  have hb01 := hb0.trans (hv1.mono hbs)
  go_wp2_with fail
  refine (CS.out w01).mono ?_
  rintro e w1 ⟨⟨pw, cw, rfl, ho⟩, hc⟩
  have hb1 := hb01.trans (hc.mono hb01.size)
  have hv2 := hv1.trans (hc.mono hv1.size)
  have iw := owned_at ho
  clear hc hb01 hv1 ho CS
  -- the specification's answer in a variable
  have A1 := (Below.refl w1.heap.size w1).alloc (Nat.le_refl _) (.cells (sqC kd md dx dy pw Z.length cw) 34)
  have X1 : Blk (w1.alloc (.cells (sqC kd md dx dy pw Z.length cw) 34)) w1.heap.size _ _ := Blk.new w1 _ _
  have hbA := hb1.trans (A1.mono hb1.size)
  have hvA := hv2.trans (A1.mono hv2.size)
  have iwA := iw.below A1 (Nat.le_refl _)
  clear A1 iw hb1 hv2
  obtain ⟨x0, x1, x2, x3⟩ := BK.out _ hvA
  go_wp2_with fail
  have hgl := X1.lt
  generalize w1.alloc _ = W1 at *
  generalize w1.heap.size = gw at *
  have IW : Hid (∀ w', Below W1.heap.size W1 w' → Ints w' pw Z ∧ (w'.cell? ⟨gw, 0, none⟩ = some (.int .i64 kd) ∧ w'.cell? ⟨gw, 1, none⟩ = some (.int .i64 md) ∧ w'.cell? ⟨gw, 2, none⟩ = some (.int .i64 dx) ∧ w'.cell? ⟨gw, 3, none⟩ = some (.int .i64 dy) ∧ w'.cell? ⟨gw, 4, none⟩ = some (.slice pw Z.length cw))) := fun w' hb => ⟨iwA.below hb (Nat.le_refl _), (X1.below hb X1.lt).five.1⟩
  clear iwA X1
  refine (CC.out W1).mono ?_
  rintro e w11 ⟨rfl, hc1⟩
  clear x0 x1 x2 x3
  go_wp2_with fail
  refine (CI.out w11).mono ?_
  rintro e w2 ⟨⟨pg, cg, rfl, ho⟩, hcx⟩
  have hc2 := hc1.trans (hcx.mono hc1.size)
  have hs1 := hbA.size
  have HG2 : Hid (w2.ownsRow W1.heap.size 3 1 (.slice pg Z.length cg) Z.length (Z.map (Value.int .i64))) := own_mono ho hc1.size
  clear ho hcx hc1
  -- and the program's
  have A2 := (Below.refl w2.heap.size w2).alloc (Nat.le_refl _) (.cells (sqC kd md dx dy pg Z.length cg) 34)
  have X2 : Blk (w2.alloc (.cells (sqC kd md dx dy pg Z.length cg) 34)) w2.heap.size _ _ := Blk.new w2 _ _
  have hc3 := hc2.trans (A2.mono hc2.size)
  have HG3 : Hid (World.ownsRow (w2.alloc (.cells (sqC kd md dx dy pg Z.length cg) 34)) W1.heap.size 3 1 (.slice pg Z.length cg) Z.length (Z.map (Value.int .i64))) := HG2.out.alloc _
  have hgo : ∀ j, (Value.slice pg Z.length cg).ownBlock = some j → j ≠ w2.heap.size := fun j hj => by have := (HG2.out.lt j hj).2; omega
  have HGO : Hid (∀ j, (Value.slice pg Z.length cg).ownBlock = some j → j ≠ w2.heap.size) := hgo
  have hs2 := hc2.size
  clear A2 HG2 hc2 hgo
  obtain ⟨⟨d0, d1, d2, d3, d4⟩, _⟩ := X2.five
  obtain ⟨_, e0, e1, e2, e3, e4⟩ := IW.out _ hc3
  go_wp2_with fail
  clear d0 d1 d2 d3 d4 e0 e1 e2 e3 e4
  generalize w2.alloc _ = W2 at *
  generalize w2.heap.size = gg at *
  refine (eqSquare_any _ _ _ _ _ _ _ _ Z W2 (owned_at HG3.out) (IW.out W2 hc3).1 (by omega)).mono ?_
  rintro e w3 ⟨rfl, hc⟩
  have hc4 := hc3.trans (hc.mono hc3.size)
  have HG4 : Hid (w3.ownsRow W1.heap.size 3 1 (.slice pg Z.length cg) Z.length (Z.map (Value.int .i64))) := owned_below HG3.out hc
  have X3 := X2.below hc X2.lt
  clear hc hc3 HG3 X2
  obtain ⟨⟨d0, d1, d2, d3, d4⟩, _⟩ := X3.five
  go_wp2_with fail
  refine (markSquare_any _ _ _ _ pg cg W1.heap.size Z 1 w3 HG4.out (by omega) (by omega) (by omega)).mono ?_
  rintro e w4 ⟨rfl, ho, hg⟩
  clear d0 d1 d2 d3 d4
  have hc5 : Below W1.heap.size W1 w4 := hc4.grown hg hc4.size (fun g hgb => (HG4.out.lt g hgb).1)
  have X4 : Blk w4 gg (sqC kd md dx dy pg Z.length cg) 34 := X3.grew hg (fun e => HGO.out gg e.symm rfl)
  have IM : Hid (∀ w', Below w4.heap.size w4 w' → Ints w' pg (marksI 1 Z.length) ∧ (w'.cell? ⟨gg, 0, none⟩ = some (.int .i64 kd) ∧ w'.cell? ⟨gg, 1, none⟩ = some (.int .i64 md) ∧ w'.cell? ⟨gg, 2, none⟩ = some (.int .i64 dx) ∧ w'.cell? ⟨gg, 3, none⟩ = some (.int .i64 dy) ∧ w'.cell? ⟨gg, 4, none⟩ = some (.slice pg Z.length cg))) := fun w' hb => by
    have hm := marksI_length 1 Z.length
    have := owned_at (xs := marksI 1 Z.length) (p := pg) (c := cg) (by rw [hm]; exact ho)
    exact ⟨this.below hb (Nat.le_refl _), (X4.below hb X4.lt).five.1⟩
  clear ho hg hc4 HG4 X3 X4 HGO hs2
  obtain ⟨_, d0, d1, d2, d3, d4⟩ := IM.out w4 (Below.refl _ _)
  go_wp2_with fail
  refine (heldSquare_any _ _ _ _ pg Z.length cg 1 w4 (IM.out w4 (Below.refl _ _)).1 (by omega) (by omega) (by omega)).mono ?_
  rintro e w5 ⟨rfl, hc⟩
  clear d0 d1 d2 d3 d4
  have hc6 := hc5.trans (hc.mono hc5.size)
  have hv6 := hvA.trans (hc6.mono hvA.size)
  obtain ⟨x0, x1, x2, x3⟩ := BK.out w5 hv6
  clear hc5
  go_wp2_with fail
  refine (CC.out w5).mono ?_
  rintro e w41 ⟨rfl, hd1⟩
  have hc7 := hc6.trans (hd1.mono hc6.size)
  have hm7 := hc.trans (hd1.mono hc.size)
  clear x0 x1 x2 x3 hc6 hc hd1 hv6
  go_wp2_with fail
  refine (CI.out w41).mono ?_
  rintro e w6 ⟨⟨p6, c6, rfl, ho⟩, hcx⟩
  have i6 := owned_at ho
  have hc8 := hc7.trans (hcx.mono hc7.size)
  have hm8 := hm7.trans (hcx.mono hm7.size)
  clear ho hcx hc7 hm7
  have A3 := (Below.refl w6.heap.size w6).alloc (Nat.le_refl _) (.cells (sqC kd md dx dy p6 Z.length c6) 34)
  have X6 : Blk (w6.alloc (.cells (sqC kd md dx dy p6 Z.length c6) 34)) w6.heap.size _ _ := Blk.new w6 _ _
  have hc9 := hc8.trans (A3.mono hc8.size)
  have hm9 := hm8.trans (A3.mono hm8.size)
  have i7 := i6.below A3 (Nat.le_refl _)
  clear A3 i6 hc8 hm8
  obtain ⟨⟨d0, d1, d2, d3, d4⟩, _⟩ := X6.five
  obtain ⟨_, e0, e1, e2, e3, e4⟩ := IW.out _ hc9
  go_wp2_with fail
  clear d0 d1 d2 d3 d4 e0 e1 e2 e3 e4 X6
  generalize w6.alloc _ = W6 at *
  refine (eqSquare_any _ _ _ _ _ _ _ _ Z W6 i7 (IW.out W6 hc9).1 (by omega)).mono ?_
  rintro e w7 ⟨rfl, hc⟩
  have hc10 := hc9.trans (hc.mono hc9.size)
  have hm10 := hm9.trans (hc.mono hm9.size)
  clear hc hc9 hm9 i7
  obtain ⟨_, d0, d1, d2, d3, d4⟩ := IM.out w7 hm10
  go_wp2_with fail
  refine (heldSquare_any _ _ _ _ pg Z.length cg 1 w7 (IM.out w7 hm10).1 (by omega) (by omega) (by omega)).mono ?_
  rintro e w8 ⟨rfl, hc⟩
  have hc11 := hc10.trans (hc.mono hc10.size)
  have hbE := hbA.trans (hc11.mono hs1)
  clear d0 d1 d2 d3 d4
  go_wp2
  go_ret
  exact ⟨rfl, hbE⟩
end Go.Proofs.YtnlbigjfnjcldaaGreat
