/-
  The walks of spec.l05ReadPar and spec.ReadPar, laws.eqPar, and the law laws.FnExactReadPar.
-/
import Derived.Test.YtijaehhpebllcaaDoorParRead
import Derived.Test.YtijaehhpebllcaaDoorReadOne
namespace Go.Proofs.YtijaehhpebllcaaDoor
open Go.RowKit
set_option linter.unusedVariables false
set_option maxRecDepth 20000

theorem parV_none (s : ByteArray) : parV s none = .tuple #[.agg #[.int .i64 0, .bool false, .bool false, .bool false], .int .i64 0, .bool false] := rfl
theorem parV_form (s : ByteArray) (st : St) : ∃ q fg fx fc p r, parV s st = .tuple #[.agg #[.int .i64 q, .bool fg, .bool fx, .bool fc], .int .i64 p, .bool r] := by
  unfold parV
  cases rpE s st with
  | none => exact ⟨_, _, _, _, _, _, rfl⟩
  | some e =>
    simp only []
    split
    · exact ⟨_, _, _, _, _, _, rfl⟩
    · exact ⟨_, _, _, _, _, _, rfl⟩
theorem rpE_small (s : ByteArray) (a : Nat) (h : s.size < a + 9) : rpE s (some a) = none := by
  unfold rpE
  by_cases h1 : a + 6 ≤ s.size
  · rw [show fixR s 6 (some a) = (readN s a 6, some (a + 6)) by simp [fixR, h1]]
    by_cases h2 : a + 6 + 1 ≤ s.size
    · rw [show fixR s 1 (some (a + 6)) = (readN s (a + 6) 1, some (a + 6 + 1)) by simp [fixR, h2]]
      by_cases h3 : a + 6 + 1 + 1 ≤ s.size
      · rw [show fixR s 1 (some (a + 6 + 1)) = (readN s (a + 6 + 1) 1, some (a + 6 + 1 + 1)) by simp [fixR, h3]]
        rw [show fixR s 1 (some (a + 6 + 1 + 1)) = (0, none) by simp [fixR]; omega]
      · rw [show fixR s 1 (some (a + 6 + 1)) = (0, none) by simp [fixR]; omega]
        rfl
    · rw [show fixR s 1 (some (a + 6)) = (0, none) by simp [fixR]; omega]
      rfl
  · rw [show fixR s 6 (some a) = (0, none) by simp [fixR]; omega]
    rfl
theorem parV_small (s : ByteArray) (a : Nat) (h : s.size < a + 9) : parV s (some a) = .tuple #[.agg #[.int .i64 0, .bool false, .bool false, .bool false], .int .i64 0, .bool false] := by
  unfold parV; rw [rpE_small s a h]
theorem flg_at (s : ByteArray) (p : Nat) (h : p + 1 ≤ s.size) : flg s (some p) = (bAt s p == 49) := by
  unfold flg fixR
  simp only [h, ↓reduceIte, readN]
  rw [Bool.eq_iff_iff]
  simp
  omega
theorem rp_big (s : ByteArray) (a : Nat) (h : a + 9 ≤ s.size) : rpQ s (some a) = readN s a 6 ∧ rpG s (some a) = (bAt s (a + 6) == 49) ∧ rpX s (some a) = (bAt s (a + 6 + 1) == 49) ∧ rpC s (some a) = (bAt s (a + 6 + 2) == 49) ∧ rpE s (some a) = some (a + 9) := by
  have e1 : fixR s 6 (some a) = (readN s a 6, some (a + 6)) := by simp [fixR, show a + 6 ≤ s.size by omega]
  have e2 : fixR s 1 (some (a + 6)) = (readN s (a + 6) 1, some (a + 6 + 1)) := by simp [fixR, show a + 6 + 1 ≤ s.size by omega]
  have e3 : fixR s 1 (some (a + 6 + 1)) = (readN s (a + 6 + 1) 1, some (a + 6 + 1 + 1)) := by simp [fixR, show a + 6 + 1 + 1 ≤ s.size by omega]
  have e4 : fixR s 1 (some (a + 6 + 1 + 1)) = (readN s (a + 6 + 1 + 1) 1, some (a + 6 + 1 + 1 + 1)) := by simp [fixR, show a + 6 + 1 + 1 + 1 ≤ s.size by omega]
  refine ⟨by unfold rpQ; rw [e1], ?_, ?_, ?_, ?_⟩
  · unfold rpG; rw [e1]; exact flg_at s _ (by omega)
  · unfold rpX; rw [e1, e2]; exact flg_at s _ (by omega)
  · unfold rpC; rw [e1, e2, e3]; exact flg_at s _ (by omega)
  · unfold rpE; rw [e1, e2, e3, e4]

set_option maxHeartbeats 800000 in
theorem eqPar_any (q : Int) (g x c : Bool) (w : World) :
    Calls Tryd.prog 32 #[.agg #[.int .i64 q, .bool g, .bool x, .bool c], .agg #[.int .i64 q, .bool g, .bool x, .bool c]] w fun e w' => e = .returned (.bool true) ∧ Below w.heap.size w w' := by
  go_enter Tryd.func32, Tryd.ntmps32
  go_wp2
  all_goals go_ret
  all_goals exact ⟨by simp, by go_grown⟩

set_option maxHeartbeats 3200000 in
theorem specParAt (s : ByteArray) (a : Nat) (w : World) (hr : rowOkB s = true) (ha : a ≤ s.size) :
    Calls Tryd.prog 65 #[.string s, .int .i64 (a : Int)] w fun e w' => e = .returned (parV s (some a)) ∧ Below w.heap.size w w' := by
  have h4 := (rowOkB_true s hr).1
  have h4' : (s.size : Int) ≤ 400000 := by omega
  have ha' : (a : Int) ≤ (s.size : Int) := by omega
  have Z := Blk.new w #[.int .i64 0, .bool false, .bool false, .bool false] 28
  have hbA := (Below.refl w.heap.size w).alloc (Nat.le_refl _) (.cells #[.int .i64 0, .bool false, .bool false, .bool false] 28)
  by_cases c1 : s.size < a + 6
  · have HR : Hid (∀ w', Calls Tryd.prog 84 #[.string s, .int .i64 (a : Int), .int .i64 6] w' fun e w'' => e = .returned (.tuple #[.int .i64 0, .int .i64 0, .bool false]) ∧ w'' = w') := fun w' => specRead_no s a 6 w' (by omega) (by omega) (by omega) (by omega)
    have HV : Hid (parV s (some a) = .tuple #[.agg #[.int .i64 0, .bool false, .bool false, .bool false], .int .i64 0, .bool false]) := parV_small s a (by omega)
    clear hr ha
    go_enter Tryd.func65, Tryd.ntmps65
    go_wp2_with (go_at_call 84; refine (HR.out _).mono ?_; rintro e w1 ⟨rfl, hw⟩; subst w1)
    (try simp only [Exit.inBlock, Exit.then])
    refine bodyPost_ret (results_cell_two rfl _ _ w.heap.size 28 _ (0, 0) _ rfl Z Tryd.underlying28 rfl (by kernel_rfl)) rfl ?_
    exact ⟨by rw [HV.out]; rfl, hbA⟩
  have HR : Hid (∀ w', Calls Tryd.prog 84 #[.string s, .int .i64 (a : Int), .int .i64 6] w' fun e w'' => e = .returned (.tuple #[.int .i64 (readN s a 6), .int .i64 ((a + 6 : Nat) : Int), .bool true]) ∧ w'' = w') := fun w' => by
    have := specRead s a 6 w' hr (by omega) (by omega)
    rwa [show (a : Int) + ((6 : Nat) : Int) = ((a + 6 : Nat) : Int) by omega] at this
  by_cases c2 : s.size < a + 9
  · have HV : Hid (parV s (some a) = .tuple #[.agg #[.int .i64 0, .bool false, .bool false, .bool false], .int .i64 0, .bool false]) := parV_small s a (by omega)
    have k1 : (s.size : Int) - ((a + 6 : Nat) : Int) < 3 := by omega
    have k2 : ((a + 6 : Nat) : Int) ≤ (s.size : Int) := by omega
    clear hr ha c1 c2
    generalize a + 6 = m at *
    go_enter Tryd.func65, Tryd.ntmps65
    go_wp2_with (go_at_call 84; refine (HR.out _).mono ?_; rintro e w1 ⟨rfl, hw⟩; subst w1)
    (try simp only [Exit.inBlock, Exit.then])
    refine bodyPost_ret (results_cell_two rfl _ _ w.heap.size 28 _ (0, 0) _ rfl Z Tryd.underlying28 rfl (by kernel_rfl)) rfl ?_
    exact ⟨by rw [HV.out]; rfl, hbA⟩
  · obtain ⟨v1, v2, v3, v4, v5⟩ := rp_big s a (by omega)
    have HV : Hid (parV s (some a) = if parB (readN s a 6) (bAt s (a + 6) == 49) (bAt s (a + 6 + 1) == 49) = true then .tuple #[.agg #[.int .i64 (readN s a 6), .bool (bAt s (a + 6) == 49), .bool (bAt s (a + 6 + 1) == 49), .bool (bAt s (a + 6 + 2) == 49)], .int .i64 ((a + 6 : Nat) + 3 : Int), .bool true]
        else .tuple #[.agg #[.int .i64 0, .bool false, .bool false, .bool false], .int .i64 0, .bool false]) := by
      show _ = _
      unfold parV; rw [v1, v2, v3, v4, v5]
      simp only []
      rw [show ((a + 9 : Nat) : Int) = ((a + 6 : Nat) : Int) + 3 by omega]
    clear v1 v2 v3 v4 v5
    have k2 : ((a + 6 : Nat) : Int) + 3 ≤ (s.size : Int) := by omega
    have kn : (0 : Int) ≤ ((a + 6 : Nat) : Int) := by omega
    generalize a + 6 = m at *
    have j1 : (m : Int) < (s.size : Int) := by omega
    obtain ⟨m1, hm1⟩ : ∃ m1, m1 = m + 1 := ⟨_, rfl⟩
    obtain ⟨m2, hm2⟩ : ∃ m2, m2 = m + 2 := ⟨_, rfl⟩
    have em1 : (m : Int) + 1 = (m1 : Int) := by omega
    have em2 : (m : Int) + 2 = (m2 : Int) := by omega
    rw [← hm1, ← hm2] at HV
    have n1 : (0 : Int) ≤ (m1 : Int) := by omega
    have n2 : (0 : Int) ≤ (m2 : Int) := by omega
    have j2 : (m1 : Int) < (s.size : Int) := by omega
    have j3 : (m2 : Int) < (s.size : Int) := by omega
    clear hr ha c1 c2 Z hm1 hm2 ha' h4
    have b1 : ((s[m].toNat : Int) == 49) = (bAt s m == 49) := by rw [bAt_eq s m (by omega)]
    have b2 : ((s[m1].toNat : Int) == 49) = (bAt s m1 == 49) := by rw [bAt_eq s m1 (by omega)]
    have b3 : ((s[m2].toNat : Int) == 49) = (bAt s m2 == 49) := by rw [bAt_eq s m2 (by omega)]
    generalize (bAt s m == 49) = fg at *
    generalize (bAt s m1 == 49) = fx at *
    generalize (bAt s m2 == 49) = fc at *
    generalize parV s (some a) = V at *
    generalize readN s a 6 = q at *
    go_enter Tryd.func65, Tryd.ntmps65
    go_wp2_with (go_at_call 84; refine (HR.out _).mono ?_; rintro e w1 ⟨rfl, hw⟩; subst w1)
    go_region
    go_wp2_with fail
    generalize hW : World.drew _ = W
    have Z1 : Blk W w.heap.size #[.int .i64 0, .bool false, .bool false, .bool false] 28 := by rw [← hW]; exact ((Blk.new w _ _).alloc _).drew
    have Q1 : Blk W (w.heap.size + 1) #[.int .i64 q, .bool fg, .bool fx, .bool fc] 28 := by rw [← hW]; exact (Blk.new' _ _ (by simp)).drew
    have hb1 : Below w.heap.size w W := by rw [← hW]; go_grown
    clear hW hbA
    refine (specParOk _ _ _ _ W).mono ?_
    rintro e w2 ⟨rfl, hc⟩
    have Z2 := Z1.below hc Z1.lt
    obtain ⟨⟨z0, z1, z2, z3⟩, g0, g1, g2, g3⟩ := Z2.four
    obtain ⟨⟨x0, x1, x2, x3⟩, _⟩ := (Q1.below hc Q1.lt).four
    have hb2 := hb1.trans (hc.mono hb1.size)
    clear hc Z1 Q1 hb1
    cases hp : parB q fg fx with
    | false =>
      have F : Blk ((((w2.setCell ⟨w.heap.size, 0, none⟩ (.int .i64 0)).setCell ⟨w.heap.size, 1, none⟩ (.bool false)).setCell ⟨w.heap.size, 2, none⟩ (.bool false)).setCell ⟨w.heap.size, 3, none⟩ (.bool false)) w.heap.size #[.int .i64 0, .bool false, .bool false, .bool false] 28 :=
        (((Z2.set 0 (.int .i64 0) (by simp)).set 1 (.bool false) (by simp)).set 2 (.bool false) (by simp)).set 3 (.bool false) (by simp)
      have HF : Hid (Blk _ _ _ _) := F
      clear F Z2
      rw [hp, if_neg (by simp)] at HV
      go_wp2
      (try simp only [Exit.inBlock, Exit.then])
      refine bodyPost_ret (results_cell_two rfl _ _ w.heap.size 28 _ (0, 0) _ rfl HF.out Tryd.underlying28 rfl (by kernel_rfl)) rfl ?_
      exact ⟨by rw [HV.out]; rfl, by go_grown⟩
    | true =>
      have F : Blk ((((w2.setCell ⟨w.heap.size, 0, none⟩ (.int .i64 q)).setCell ⟨w.heap.size, 1, none⟩ (.bool fg)).setCell ⟨w.heap.size, 2, none⟩ (.bool fx)).setCell ⟨w.heap.size, 3, none⟩ (.bool fc)) w.heap.size #[.int .i64 q, .bool fg, .bool fx, .bool fc] 28 :=
        (((Z2.set 0 (.int .i64 q) (by simp)).set 1 (.bool fg) (by simp)).set 2 (.bool fx) (by simp)).set 3 (.bool fc) (by simp)
      have HF : Hid (Blk _ _ _ _) := F
      clear F Z2
      rw [hp, if_pos rfl] at HV
      go_wp2
      (try simp only [Exit.inBlock, Exit.then])
      refine bodyPost_ret (results_cell_two rfl _ _ w.heap.size 28 _ (0, 0) _ rfl HF.out Tryd.underlying28 rfl (by kernel_rfl)) rfl ?_
      exact ⟨by rw [HV.out]; rfl, by go_grown⟩

set_option maxHeartbeats 1600000 in
theorem specReadPar (s : ByteArray) (a : Int) (w : World) (hm : s.size ≤ maxLen) :
    Calls Tryd.prog 31 #[.string s, .int .i64 a] w fun e w' => e = .returned (parV s (st0 s a)) ∧ Below w.heap.size w w' := by
  have Z := Blk.new w #[.int .i64 0, .bool false, .bool false, .bool false] 28
  have hbA := (Below.refl w.heap.size w).alloc (Nat.le_refl _) (.cells #[.int .i64 0, .bool false, .bool false, .bool false] 28)
  have HR : Hid (∀ w', Calls Tryd.prog 60 #[.string s] w' fun e w'' => e = .returned (.bool (rowOkB s)) ∧ w'' = w') := fun w' => specRowOk s w' hm
  have hm' : (s.size : Int) ≤ 9223372036854775807 := by unfold maxLen at hm; omega
  cases hr : rowOkB s with
  | false =>
    have HV : Hid (parV s (st0 s a) = .tuple #[.agg #[.int .i64 0, .bool false, .bool false, .bool false], .int .i64 0, .bool false]) := by
      show _ = _
      unfold st0 placeB; rw [hr]; simp [parV_none]
    rw [hr] at HR
    go_enter Tryd.func31, Tryd.ntmps31
    go_wp2_with (first
      | (go_at_call 60; refine (HR.out _).mono ?_; rintro e w1 ⟨rfl, hw⟩; subst w1)
      | (go_at_call 54; refine (in_any _ _ _ _).mono ?_; rintro e w1 ⟨rfl, hw⟩; subst w1))
    (try simp only [Exit.inBlock, Exit.then])
    refine bodyPost_ret (results_cell_two rfl _ _ w.heap.size 28 _ (0, 0) _ rfl Z Tryd.underlying28 rfl (by kernel_rfl)) rfl ?_
    exact ⟨by rw [HV.out]; rfl, hbA⟩
  | true =>
    rw [hr] at HR
    by_cases c1 : a < 0 ∨ (s.size : Int) < a
    · have i1 : (decide ((0 : Int) ≤ a) && decide (a ≤ (s.size : Int))) = false := by simp; omega
      have HV : Hid (parV s (st0 s a) = .tuple #[.agg #[.int .i64 0, .bool false, .bool false, .bool false], .int .i64 0, .bool false]) := by
        show _ = _
        unfold st0 placeB; rw [i1]; simp [parV_none]
      clear c1
      go_enter Tryd.func31, Tryd.ntmps31
      go_wp2_with (first
        | (go_at_call 60; refine (HR.out _).mono ?_; rintro e w1 ⟨rfl, hw⟩; subst w1)
        | (go_at_call 54; refine (in_any _ _ _ _).mono ?_; rintro e w1 ⟨rfl, hw⟩; subst w1))
      (try simp only [Exit.inBlock, Exit.then])
      refine bodyPost_ret (results_cell_two rfl _ _ w.heap.size 28 _ (0, 0) _ rfl Z Tryd.underlying28 rfl (by kernel_rfl)) rfl ?_
      exact ⟨by rw [HV.out]; rfl, hbA⟩
    · have i1 : (decide ((0 : Int) ≤ a) && decide (a ≤ (s.size : Int))) = true := by simp; omega
      obtain ⟨b, rfl⟩ := Int.eq_ofNat_of_zero_le (show 0 ≤ a by omega)
      have HV : Hid (st0 s (b : Int) = some b) := by
        show _ = _
        unfold st0 placeB; rw [i1, hr]; simp
      have HA : Hid (∀ w', Calls Tryd.prog 65 #[.string s, .int .i64 (b : Int)] w' fun e w'' => e = .returned (parV s (some b)) ∧ Below w'.heap.size w' w'') := fun w' => specParAt s b w' hr (by omega)
      rw [HV.out]
      obtain ⟨q, fg, fx, fc, p, r, hv⟩ := parV_form s (some b)
      rw [hv] at HA ⊢
      have c0 : (b : Int) ≤ (s.size : Int) := by omega
      clear hv HV c1 hr
      go_enter Tryd.func31, Tryd.ntmps31
      go_wp2_with (first
        | (go_at_call 60; refine (HR.out _).mono ?_; rintro e w1 ⟨rfl, hw⟩; subst w1)
        | (go_at_call 54; refine (in_any _ _ _ _).mono ?_; rintro e w1 ⟨rfl, hw⟩; subst w1))
      refine (HA.out _).mono ?_
      rintro e w1 ⟨rfl, hc⟩
      have Z2 := Z.below hc Z.lt
      obtain ⟨⟨z0, z1, z2, z3⟩, g0, g1, g2, g3⟩ := Z2.four
      have hb2 := hbA.trans (hc.mono hbA.size)
      clear hc Z
      go_wp2
      have F : Blk ((((w1.setCell ⟨w.heap.size, 0, none⟩ (.int .i64 q)).setCell ⟨w.heap.size, 1, none⟩ (.bool fg)).setCell ⟨w.heap.size, 2, none⟩ (.bool fx)).setCell ⟨w.heap.size, 3, none⟩ (.bool fc)) w.heap.size #[.int .i64 q, .bool fg, .bool fx, .bool fc] 28 :=
        (((Z2.set 0 (.int .i64 q) (by simp)).set 1 (.bool fg) (by simp)).set 2 (.bool fx) (by simp)).set 3 (.bool fc) (by simp)
      (try simp only [Exit.inBlock, Exit.then])
      refine bodyPost_ret (results_cell_two rfl _ _ w.heap.size 28 _ (0, 0) _ rfl F Tryd.underlying28 rfl (by kernel_rfl)) rfl ?_
      exact ⟨rfl, by go_grown⟩

set_option maxHeartbeats 1600000 in
theorem fnExactReadPar_walk (s : ByteArray) (hm : s.size ≤ maxLen) (a : Int) (wa : (Lit.int .i64 a).wf = true) (w : World) (hE : ErrT w) :
    Calls Tryd.prog 9 #[.string s, .int .i64 a] w fun e w' => e = .returned (.bool true) ∧ Below w.heap.size w w' := by
  have hm' : (s.size : Int) ≤ 9223372036854775807 := by unfold maxLen at hm; omega
  by_cases hbig : 1048576 < (s.size : Int)
  · go_enter Tryd.func9, Tryd.ntmps9
    go_wp2
    go_ret
    exact ⟨rfl, Below.refl _ _⟩
  have E : Hid (ErrT w) := hE
  have CS : Hid (∀ w', Calls Tryd.prog 31 #[.string s, .int .i64 a] w' fun e w'' => e = .returned (parV s (st0 s a)) ∧ Below w'.heap.size w' w'') := fun w' => specReadPar s a w' hm
  have CI : Hid (∀ w', ErrT w' → Calls Tryd.prog 16 #[.string s, .int .i64 a] w' fun e w'' => e = .returned (parV s (st0 s a)) ∧ Below w'.heap.size w' w'') := fun w' h => implReadPar s a w' hm h
  obtain ⟨q, fg, fx, fc, p, r, hv⟩ := parV_form s (st0 s a)
  rw [hv] at CS CI
  clear hE hv wa
  go_enter Tryd.func9, Tryd.ntmps9
  go_wp2_with fail
  refine (CS.out w).mono ?_
  rintro e w1 ⟨rfl, hb1⟩
  go_wp2_with fail
  have X1 := Blk.new w1 #[.int .i64 q, .bool fg, .bool fx, .bool fc] 28
  have hb2 := hb1.alloc hb1.size (.cells #[.int .i64 q, .bool fg, .bool fx, .bool fc] 28)
  generalize w1.alloc _ = w2 at *
  refine (CI.out w2 (E.out.below hb2 (Nat.le_refl _))).mono ?_
  rintro e w3 ⟨rfl, hc⟩
  have X2 := X1.below hc X1.lt
  have hb3 := hb2.trans (hc.mono hb2.size)
  obtain ⟨⟨x0, x1, x2, x3⟩, _⟩ := X2.four
  have hl : w1.heap.size < w3.heap.size := X2.lt
  have hne : w1.heap.size ≠ w3.heap.size := by omega
  clear hc X1 hb2 X2
  go_wp2_with (go_at_call 32; refine (eqPar_any _ _ _ _ _).mono ?_; rintro e w4 ⟨rfl, hc4⟩)
  all_goals
    have hb5 := (hb3.alloc hb3.size (.cells #[.int .i64 q, .bool fg, .bool fx, .bool fc] 28)).trans (hc4.mono (by simp; have := hb3.size; omega))
    go_ret
    exact ⟨by simp, hb5⟩
end Go.Proofs.YtijaehhpebllcaaDoor
