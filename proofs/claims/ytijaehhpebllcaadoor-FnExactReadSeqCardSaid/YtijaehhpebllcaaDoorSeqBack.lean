/-
  The walks of spec.l05ReadList, spec.l05ReadSeq and spec.ReadSeq.
-/
import Derived.Test.YtijaehhpebllcaaDoorSeqRead
import Derived.Test.YtijaehhpebllcaaDoorReadOne
import Derived.Deep.AppendLies
namespace Go.Proofs.YtijaehhpebllcaaDoor
open Go.RowKit
set_option linter.unusedVariables false
set_option maxRecDepth 20000
attribute [local go_sem ↓] Go.wp_at_zero Go.wp_at_succ

/-- What spec.l03ReadUe answers at a place. -/
theorem specCnt (F : Nat → Option (Int × Nat)) (s : ByteArray) (p : Nat) (w : World) (hF : IsCnt s F) (hr : rowOkB s = true) (hp : p ≤ s.size) :
    (∃ n q, F p = some (n, q) ∧ Calls Tryd.prog 83 #[.string s, .int .i64 (p : Int)] w fun e w' => e = .returned (.tuple #[.int .i64 n, .int .i64 (q : Int), .bool true]) ∧ w' = w) ∨
    (F p = none ∧ Calls Tryd.prog 83 #[.string s, .int .i64 (p : Int)] w fun e w' => e = .returned (.tuple #[.int .i64 0, .int .i64 0, .bool false]) ∧ w' = w) := by
  cases e : F p with
  | none => exact .inr ⟨rfl, specReadAtNo s p w hr (by omega) ((hF p).2 e)⟩
  | some r =>
    obtain ⟨n, q⟩ := r
    obtain ⟨z, hc, rfl⟩ := (hF p).1 n q e
    refine .inl ⟨n, _, rfl, ?_⟩
    have := specReadAt s p z n w hr hc
    rwa [show (p : Int) + (z : Int) + ((z : Int) + 1) = ((p + z + (z + 1) : Nat) : Int) by omega] at this
theorem stA_stop (F : Nat → Option (Int × Nat)) (st : St) (j : Nat) (h : stA F st j = none) : ∀ k, j ≤ k → stA F st k = none := by
  intro k hk
  induction hk with
  | refl => exact h
  | step _ ih => rw [stA, ih]; rfl

set_option maxHeartbeats 3200000 in
theorem specListAt (F : Nat → Option (Int × Nat)) (s : ByteArray) (p : Nat) (w : World) (hF : IsCnt s F) (hr : rowOkB s = true) (hp : p ≤ s.size) :
    Calls Tryd.prog 85 #[.string s, .int .i64 (p : Int)] w fun e w' => Below w.heap.size w w' ∧
      ((∃ q a c, (lst F (some p)).2 = some q ∧ e = .returned (.tuple #[.slice a (lst F (some p)).1.length c, .int .i64 (q : Int), .bool true]) ∧ Ints w' a (lst F (some p)).1 ∧ ∀ k, a = some k → w.heap.size ≤ k.block) ∨
       ((lst F (some p)).2 = none ∧ ∃ a n c, e = .returned (.tuple #[.slice a n c, .int .i64 0, .bool false]))) := by
  obtain ⟨i0, hi0, hz0, hz1, hz2⟩ := info_parts infoI
  have h4 := (rowOkB_true s hr).1
  have hbA := (Below.refl w.heap.size w).alloc (Nat.le_refl _) (.cells #[] 3)
  rcases specCnt F s p (w.alloc (.cells #[] 3)) hF hr hp with ⟨n, q, hFp, hC⟩ | ⟨hFp, hC⟩
  · have hc1 : cnt F (some p) = (n, some q) := by simp [cnt, hFp]
    have hn := cnt_bd hF hr (some p)
    have hq := cnt_in hF (some p) q (by rw [hc1])
    rw [hc1] at hn
    simp only at hn
    obtain ⟨hn0, hn1⟩ := hn
    obtain ⟨n, rfl⟩ := Int.eq_ofNat_of_zero_le hn0
    have HC : Hid (Calls _ _ _ _ _) := hC
    by_cases h5 : 4 < (n : Int)
    · have HL : Hid ((lst F (some p)).2 = none) := by show _ = _; unfold lst; rw [hc1]; simp [h5]
      clear hFp hC hc1 hF hr
      go_enter Tryd.func85, Tryd.ntmps85
      go_wp2_with (go_at_call 83; refine HC.out.mono ?_; rintro e w1 ⟨rfl, hw⟩; subst w1)
      go_ret3
      exact ⟨hbA, .inr ⟨HL.out, _, _, _, rfl⟩⟩
    · have h5' : (n : Int) ≤ 4 := by omega
      have HL : Hid (lst F (some p) = ((List.range n).map (valA F (some q)), stA F (some q) n)) := by show _ = _; unfold lst; rw [hc1]; simp [h5]
      have HF : Hid (IsCnt s F ∧ rowOkB s = true ∧ q ≤ s.size) := ⟨hF, hr, hq⟩
      clear hFp hC hc1 hF hr hq
      go_enter Tryd.func85, Tryd.ntmps85
      go_wp2_with (go_at_call 83; refine HC.out.mono ?_; rintro e w1 ⟨rfl, hw⟩; subst w1)
      go_loopw [7, 9, 11] (fun v x i wr => ∃ j qj : Nat, j ≤ n ∧ i = .int .i64 j ∧ x = .int .i64 (qj : Int) ∧ Hid (stA F (some q) j = some qj) ∧ wr.ownsRow w.heap.size 3 1 v j (((List.range j).map (valA F (some q))).map (Value.int .i64)) ∧ Below w.heap.size w wr)
        (fun _ _ i _ => n - (intOf i).toNat)
      case atStart => exact ⟨0, q, Nat.zero_le _, rfl, rfl, (rfl : stA F (some q) 0 = some q), World.ownsRow_made w #[] 0 (Nat.le_refl _) (by unfold maxLen; omega) rfl, hbA⟩
      case round =>
        obtain ⟨j, qj, hj, rfl, rfl, HS, hown, hb⟩ := hrel
        by_cases hlt : j < n
        · have hqj : qj ≤ s.size := stA_in HF.out.1 (some q) (fun p' h => by cases h; exact HF.out.2.2) j qj HS.out
          have hq : (j : Int) < (n : Int) := by omega
          rcases specCnt F s qj wr HF.out.1 HF.out.2.1 hqj with ⟨y, r, hFy, hCy⟩ | ⟨hFy, hCy⟩
          · have HV : Hid (valA F (some q) j = y ∧ stA F (some q) (j + 1) = some r) := by
              have e : cnt F (stA F (some q) j) = (y, some r) := by rw [HS.out]; simp [cnt, hFy]
              exact ⟨by unfold valA; rw [e], by rw [stA, e]⟩
            have HC2 : Hid (Calls _ _ _ _ _) := hCy
            have hbs := hb.size
            clear hFy hCy
            go_wp2_with (first
              | (go_at_call 83; refine HC2.out.mono ?_; rintro e w1 ⟨rfl, hw⟩; subst w1)
              | (at_builtin; refine wpList_append_lies _ (by rfl) _ _ 24 (by rfl) w.heap.size 3 i0 (.int .i64 0) 1 8 Tryd.underlying24 hi0 hz0 hz1 hz2 rfl (by omega) u7 j _ (by rfl) (hown.alloc _) ⟨wr.heap.size, 0, none⟩ 1 1 [.int .i64 y] (by rfl) (by rfl) (World.news_of_block (cs := #[.int .i64 y]) (t := 3) (fr := (0, 0)) (heap_alloc_new wr _)) (by simp [Value.oneCell']) (by omega) (by unfold maxLen; omega) (by omega) (by simp; omega) (wr.heap.size + 1) (by simp) ?_; intro gg cp w4 hown2 hgrow hat hlt2))
            have hown3 : w4.ownsRow w.heap.size 3 1 (.slice (some ⟨gg, 0, none⟩) (j + 1) cp) (j + 1) (((List.range (j + 1)).map (valA F (some q))).map (Value.int .i64)) := by
              rw [List.range_succ, List.map_append, List.map_append]
              simpa [HV.out.1] using hown2
            have hb4 : Below w.heap.size w w4 := (hb.alloc hbs _).grown hgrow (by simp; omega) (fun k hk => (hown.lt k hk).1)
            clear hown2 hgrow hat hlt2 hown
            go_roundw
            case rel => exact ⟨j + 1, r, by omega, by go_num, rfl, HV.out.2, hown3, hb4⟩
            case measure => simp [intOf]; omega
          · have HN : Hid ((lst F (some p)).2 = none) := by
              show _ = _
              rw [HL.out]
              refine stA_stop F (some q) (j + 1) ?_ n (by omega)
              rw [stA, HS.out]; simp [cnt, hFy]
            have HC2 : Hid (Calls _ _ _ _ _) := hCy
            have hbs := hb.size
            clear hFy hCy
            go_wp2_with (go_at_call 83; refine HC2.out.mono ?_; rintro e w1 ⟨rfl, hw⟩; subst w1)
            go_ret3
            exact ⟨hb.alloc hbs _, .inr ⟨HN.out, _, _, _, rfl⟩⟩
        · obtain rfl : j = n := by omega
          obtain ⟨aa, cc, hv, hi, hk2⟩ := ints_of_owns hown
          rw [List.length_map, List.length_range] at hv
          subst hv
          have HI : Hid (Ints wr aa ((List.range j).map (valA F (some q))) ∧ ∀ k, aa = some k → w.heap.size ≤ k.block) := ⟨hi, hk2⟩
          clear hi hk2
          go_wp2
          go_ret3
          refine ⟨hb, .inl ⟨qj, aa, cc, ?_, ?_, ?_⟩⟩
          · rw [HL.out]; exact HS.out
          · rw [HL.out]; simp
          · rw [HL.out]; exact HI.out
  · have HL : Hid ((lst F (some p)).2 = none) := by show _ = _; unfold lst; simp [cnt, hFp, stA]
    have HC : Hid (Calls _ _ _ _ _) := hC
    clear hFp hC hF hr
    go_enter Tryd.func85, Tryd.ntmps85
    go_wp2_with (go_at_call 83; refine HC.out.mono ?_; rintro e w1 ⟨rfl, hw⟩; subst w1)
    go_ret3
    exact ⟨hbA, .inr ⟨HL.out, _, _, _, rfl⟩⟩

/-- The result's variable, filled. -/
theorem Blk.fill {w : World} {g : Nat} {t : TypeId} {z0 z1 z2 z3 : Value} (h : Blk w g #[z0, z1, z2, z3] t) (v0 v1 v2 v3 : Value) :
    Blk ((((w.setCell ⟨g, 0, none⟩ v0).setCell ⟨g, 1, none⟩ v1).setCell ⟨g, 2, none⟩ v2).setCell ⟨g, 3, none⟩ v3) g #[v0, v1, v2, v3] t :=
  (((h.set 0 v0 (by simp)).set 1 v1 (by simp)).set 2 v2 (by simp)).set 3 v3 (by simp)
theorem Ints.below4 {w : World} {a : Option Addr} {xs : List Int} (h : Ints w a xs) {g : Nat} (hq : ∀ p, a = some p → g < p.block) (v0 v1 v2 v3 : Value) :
    Ints ((((w.setCell ⟨g, 0, none⟩ v0).setCell ⟨g, 1, none⟩ v1).setCell ⟨g, 2, none⟩ v2).setCell ⟨g, 3, none⟩ v3) a xs :=
  (((h.set _ _ hq).set _ _ hq).set _ _ hq).set _ _ hq

set_option maxHeartbeats 6400000 in
theorem specSeqAt (F : Nat → Option (Int × Nat)) (s : ByteArray) (p : Nat) (w : World) (hF : IsCnt s F) (hr : rowOkB s = true) (hp : p ≤ s.size) :
    Calls Tryd.prog 61 #[.string s, .int .i64 (p : Int)] w fun e w' => Below w.heap.size w w' ∧
      ((rdOk F s (some p) = false ∧ e = .returned (.tuple #[.agg #[.int .i64 0, .int .i64 0, .slice none 0 0, .slice none 0 0], .int .i64 0, .bool false])) ∨
       (rdOk F s (some p) = true ∧ ∃ a1 c1 a2 c2 pe, rdE F s (some p) = some pe ∧ e = .returned (.tuple #[.agg #[.int .i64 (rdL F (some p)), .int .i64 (rdB F s (some p)), .slice a1 (rdX F s (some p)).length c1, .slice a2 (rdY F s (some p)).length c2], .int .i64 (pe : Int), .bool true]) ∧
          (Ints w' a1 (rdX F s (some p)) ∧ ∀ k, a1 = some k → w.heap.size < k.block) ∧ (Ints w' a2 (rdY F s (some p)) ∧ ∀ k, a2 = some k → w.heap.size < k.block))) := by
  have h4 := (rowOkB_true s hr).1
  have Z := Blk.new w #[.int .i64 0, .int .i64 0, .slice none 0 0, .slice none 0 0] 26
  have hbA := (Below.refl w.heap.size w).alloc (Nat.le_refl _) (.cells #[.int .i64 0, .int .i64 0, .slice none 0 0, .slice none 0 0] 26)
  have HNo : Hid (rdE F s (some p) = none → rdOk F s (some p) = false) := fun h => by unfold rdOk; rw [h]; rfl
  rcases specCnt F s p (w.alloc (.cells #[.int .i64 0, .int .i64 0, .slice none 0 0, .slice none 0 0] 26)) hF hr hp with ⟨l, q1, hFp, hC⟩ | ⟨hFp, hC⟩
  rotate_left
  · have HZ : Hid (rdOk F s (some p) = false) := HNo.out (by unfold rdE; rw [show cnt F (some p) = (0, none) by simp [cnt, hFp]]; rfl)
    have HC : Hid (Calls _ _ _ _ _) := hC
    clear hFp hC hF hr HNo
    go_enter Tryd.func61, Tryd.ntmps61
    go_wp2_with (go_at_call 83; refine HC.out.mono ?_; rintro e w1 ⟨rfl, hw⟩; subst w1)
    (try simp only [Exit.inBlock, Exit.then])
    refine bodyPost_ret (results_cell_two rfl _ _ w.heap.size 26 _ (0, 0) _ rfl Z Tryd.underlying26 rfl (by kernel_rfl)) rfl ?_
    exact ⟨hbA, .inl ⟨HZ.out, rfl⟩⟩
  have hc1 : cnt F (some p) = (l, some q1) := by simp [cnt, hFp]
  have hq1 := cnt_in hF (some p) q1 (by rw [hc1])
  have HC : Hid (Calls _ _ _ _ _) := hC
  clear hC hFp
  by_cases hb4 : s.size < q1 + 4
  · have HZ : Hid (rdOk F s (some p) = false) := HNo.out (by unfold rdE; rw [hc1]; simp only []; rw [show fixR s 4 (some q1) = (0, none) by simp [fixR]; omega]; rfl)
    have HR : Hid (∀ w', Calls Tryd.prog 84 #[.string s, .int .i64 (q1 : Int), .int .i64 4] w' fun e w'' => e = .returned (.tuple #[.int .i64 0, .int .i64 0, .bool false]) ∧ w'' = w') := fun w' => specRead_no s q1 4 w' (by omega) (by omega) (by omega) (by omega)
    clear hF hr HNo hc1 hq1 hb4
    go_enter Tryd.func61, Tryd.ntmps61
    go_wp2_with (first
      | (go_at_call 83; refine HC.out.mono ?_; rintro e w1 ⟨rfl, hw⟩; subst w1)
      | (go_at_call 84; refine (HR.out _).mono ?_; rintro e w1 ⟨rfl, hw⟩; subst w1))
    (try simp only [Exit.inBlock, Exit.then])
    refine bodyPost_ret (results_cell_two rfl _ _ w.heap.size 26 _ (0, 0) _ rfl Z Tryd.underlying26 rfl (by kernel_rfl)) rfl ?_
    exact ⟨hbA, .inl ⟨HZ.out, rfl⟩⟩
  have hf1 : fixR s 4 (some q1) = (readN s q1 4, some (q1 + 4)) := by simp [fixR, show q1 + 4 ≤ s.size by omega]
  have HR : Hid (∀ w', Calls Tryd.prog 84 #[.string s, .int .i64 (q1 : Int), .int .i64 4] w' fun e w'' => e = .returned (.tuple #[.int .i64 (readN s q1 4), .int .i64 ((q1 + 4 : Nat) : Int), .bool true]) ∧ w'' = w') := fun w' => by
    have := specRead s q1 4 w' hr (by omega) (by omega)
    rwa [show (q1 : Int) + ((4 : Nat) : Int) = ((q1 + 4 : Nat) : Int) by omega] at this
  have eL : rdL F (some p) = l := by unfold rdL; rw [hc1]
  have eB : rdB F s (some p) = readN s q1 4 := by unfold rdB; rw [hc1]; simp only []; rw [hf1]
  have eX : rdX F s (some p) = (lst F (some (q1 + 4))).1 := by unfold rdX; rw [hc1]; simp only []; rw [hf1]
  have eY : rdY F s (some p) = (lst F (lst F (some (q1 + 4))).2).1 := by unfold rdY; rw [hc1]; simp only []; rw [hf1]
  have eE : rdE F s (some p) = (lst F (lst F (some (q1 + 4))).2).2 := by unfold rdE; rw [hc1]; simp only []; rw [hf1]
  have HX4 : Hid ((rdX F s (some p)).length ≤ 4 ∧ (rdY F s (some p)).length ≤ 4) := ⟨by rw [eX]; exact lst_len _ _, by rw [eY]; exact lst_len _ _⟩
  have HL1 : Hid (∀ w', Calls Tryd.prog 85 #[.string s, .int .i64 ((q1 + 4 : Nat) : Int)] w' fun e w'' => Below w'.heap.size w' w'' ∧
      ((∃ q a c, (lst F (some (q1 + 4))).2 = some q ∧ e = .returned (.tuple #[.slice a (rdX F s (some p)).length c, .int .i64 (q : Int), .bool true]) ∧ Ints w'' a (rdX F s (some p)) ∧ ∀ k, a = some k → w'.heap.size ≤ k.block) ∨
       ((lst F (some (q1 + 4))).2 = none ∧ ∃ a n c, e = .returned (.tuple #[.slice a n c, .int .i64 0, .bool false])))) := fun w' => by rw [eX]; exact specListAt F s (q1 + 4) w' hF hr (by omega)
  have HL2 : Hid (∀ w' q, (lst F (some (q1 + 4))).2 = some q → Calls Tryd.prog 85 #[.string s, .int .i64 (q : Int)] w' fun e w'' => Below w'.heap.size w' w'' ∧
      ((∃ pe a c, rdE F s (some p) = some pe ∧ e = .returned (.tuple #[.slice a (rdY F s (some p)).length c, .int .i64 (pe : Int), .bool true]) ∧ Ints w'' a (rdY F s (some p)) ∧ ∀ k, a = some k → w'.heap.size ≤ k.block) ∨
       (rdE F s (some p) = none ∧ ∃ a n c, e = .returned (.tuple #[.slice a n c, .int .i64 0, .bool false])))) := fun w' q hq => by
    rw [eY, eE, hq]; exact specListAt F s q w' hF hr (lst_in hF (some (q1 + 4)) q hq)
  have HE0 : Hid ((lst F (some (q1 + 4))).2 = none → rdE F s (some p) = none) := fun h => by rw [eE, h]; rfl
  have HO : Hid (rdOk F s (some p) = ((rdE F s (some p)).isSome && seqB (rdL F (some p)) (rdB F s (some p)) (rdX F s (some p)) (rdY F s (some p)))) := rfl
  rw [eL, eB] at HO ⊢
  clear eL eB eX eY eE hF hr hf1 hc1 hq1 hb4
  generalize rdOk F s (some p) = ok at *
  generalize rdE F s (some p) = st4 at *
  generalize rdX F s (some p) = xs at *
  generalize rdY F s (some p) = ys at *
  generalize (lst F (some (q1 + 4))).2 = st3 at *
  generalize readN s q1 4 = b at *
  generalize q1 + 4 = q2 at *
  go_enter Tryd.func61, Tryd.ntmps61
  go_wp2_with (first
    | (go_at_call 83; refine HC.out.mono ?_; rintro e w1 ⟨rfl, hw⟩; subst w1)
    | (go_at_call 84; refine (HR.out _).mono ?_; rintro e w1 ⟨rfl, hw⟩; subst w1))
  refine (HL1.out _).mono ?_
  rintro e w1 ⟨hc, ⟨q3, a1, c1, hs3, rfl, hi1, hk1⟩ | ⟨hs3, a1, n1, c1, rfl⟩⟩
  rotate_left
  · have HZ : Hid (ok = false) := HNo.out (HE0.out hs3)
    have Z1 := Z.below hc Z.lt
    have hb1 := hbA.trans (hc.mono hbA.size)
    obtain ⟨⟨z0, z1, z2, z3⟩, g0, g1, g2, g3⟩ := Z1.four
    have HF1 : Hid (Blk _ _ _ _) := Z1.fill (.int .i64 0) (.int .i64 0) (.slice none 0 0) (.slice none 0 0)
    clear hc Z hbA Z1
    go_wp2
    (try simp only [Exit.inBlock, Exit.then])
    refine bodyPost_ret (results_cell_two rfl _ _ w.heap.size 26 _ (0, 0) _ rfl HF1.out Tryd.underlying26 rfl (by kernel_rfl)) rfl ?_
    exact ⟨by go_grown, .inl ⟨HZ.out, rfl⟩⟩
  have Z1 := Z.below hc Z.lt
  have hb1 := hbA.trans (hc.mono hbA.size)
  have hs1 : w.heap.size + 1 ≤ w1.heap.size := by have := hc.size; simpa using this
  have HI1 : Hid (Ints w1 a1 xs ∧ ∀ k, a1 = some k → w.heap.size < k.block) := ⟨hi1, fun k hk => by have := hk1 k hk; simp at this; omega⟩
  clear hc Z hbA hi1 hk1
  go_wp2_with fail
  refine (HL2.out w1 q3 hs3).mono ?_
  rintro e w2 ⟨hc, ⟨pe, a2, c2, hs4, rfl, hi2, hk2⟩ | ⟨hs4, a2, n2, c2, rfl⟩⟩
  rotate_left
  · have HZ : Hid (ok = false) := HNo.out hs4
    have Z2 := (Z1.below hc Z1.lt)
    have hb2 := hb1.trans (hc.mono hb1.size)
    have Z3 := Z2.alloc (.cells #[.int .i64 l, .int .i64 b, .slice a1 xs.length c1, .slice a2 n2 c2] 26)
    have hb3 := hb2.alloc hb2.size (.cells #[.int .i64 l, .int .i64 b, .slice a1 xs.length c1, .slice a2 n2 c2] 26)
    obtain ⟨⟨z0, z1, z2, z3⟩, g0, g1, g2, g3⟩ := Z3.four
    have HF1 : Hid (Blk _ _ _ _) := Z3.fill (.int .i64 0) (.int .i64 0) (.slice none 0 0) (.slice none 0 0)
    clear hc Z1 Z2 Z3 hb1 hb2
    go_wp2
    (try simp only [Exit.inBlock, Exit.then])
    refine bodyPost_ret (results_cell_two rfl _ _ w.heap.size 26 _ (0, 0) _ rfl HF1.out Tryd.underlying26 rfl (by kernel_rfl)) rfl ?_
    exact ⟨by go_grown, .inl ⟨HZ.out, rfl⟩⟩
  have Z2 := (Z1.below hc Z1.lt)
  have hb2 := hb1.trans (hc.mono hb1.size)
  have HI2 : Hid ((Ints w2 a1 xs ∧ ∀ k, a1 = some k → w.heap.size < k.block) ∧ (Ints w2 a2 ys ∧ ∀ k, a2 = some k → w.heap.size < k.block)) := ⟨⟨HI1.out.1.below hc (Nat.le_refl _), HI1.out.2⟩, hi2, fun k hk => by have := hk2 k hk; omega⟩
  clear hc Z1 hb1 hi2 HI1 hk2
  go_wp2_with fail
  have Q3 := Blk.new w2 #[.int .i64 l, .int .i64 b, .slice a1 xs.length c1, .slice a2 ys.length c2] 26
  have Z3 := Z2.alloc (.cells #[.int .i64 l, .int .i64 b, .slice a1 xs.length c1, .slice a2 ys.length c2] 26)
  have hb23 := (Below.refl w2.heap.size w2).alloc (Nat.le_refl _) (.cells #[.int .i64 l, .int .i64 b, .slice a1 xs.length c1, .slice a2 ys.length c2] 26)
  have hb3 := hb2.trans (hb23.mono hb2.size)
  clear Z2
  generalize w2.alloc _ = w3 at *
  have hX4 : xs.length ≤ maxLen := by have := HX4.out.1; unfold maxLen; omega
  have hY4 : ys.length ≤ maxLen := by have := HX4.out.2; unfold maxLen; omega
  refine (specSeqOk _ _ _ _ _ _ _ _ w3 (HI2.out.1.1.below hb23 (Nat.le_refl _)) (HI2.out.2.1.below hb23 (Nat.le_refl _)) hX4 hY4).mono ?_
  rintro e w4 ⟨rfl, hc⟩
  have Q4 := Q3.below hc Q3.lt
  have Z4 := Z3.below hc Z3.lt
  have hb4 := hb3.trans (hc.mono hb3.size)
  have hb24 := hb23.trans (hc.mono hb23.size)
  have HI4 : Hid ((Ints w4 a1 xs ∧ ∀ k, a1 = some k → w.heap.size < k.block) ∧ (Ints w4 a2 ys ∧ ∀ k, a2 = some k → w.heap.size < k.block)) := ⟨⟨HI2.out.1.1.below hb24 (Nat.le_refl _), HI2.out.1.2⟩, HI2.out.2.1.below hb24 (Nat.le_refl _), HI2.out.2.2⟩
  obtain ⟨⟨z0, z1, z2, z3⟩, g0, g1, g2, g3⟩ := Z4.four
  obtain ⟨⟨x0, x1, x2, x3⟩, _⟩ := Q4.four
  clear hc Q3 Z3 Q4 hb3 hb23 hb24 HI2 hX4 hY4
  cases hs : seqB l b xs ys with
  | false =>
    have HZ : Hid (ok = false) := by show _ = _; rw [HO.out, hs]; simp
    have HF1 : Hid (Blk _ _ _ _) := Z4.fill (.int .i64 0) (.int .i64 0) (.slice none 0 0) (.slice none 0 0)
    clear Z4
    go_wp2
    (try simp only [Exit.inBlock, Exit.then])
    refine bodyPost_ret (results_cell_two rfl _ _ w.heap.size 26 _ (0, 0) _ rfl HF1.out Tryd.underlying26 rfl (by kernel_rfl)) rfl ?_
    exact ⟨by go_grown, .inl ⟨HZ.out, rfl⟩⟩
  | true =>
    have HZ : Hid (ok = true) := by show _ = _; rw [HO.out, hs, hs4]; rfl
    have HF1 : Hid (Blk _ _ _ _) := Z4.fill (.int .i64 l) (.int .i64 b) (.slice a1 xs.length c1) (.slice a2 ys.length c2)
    have HS4 : Hid (st4 = some pe) := hs4
    clear Z4 hs4
    go_wp2
    (try simp only [Exit.inBlock, Exit.then])
    refine bodyPost_ret (results_cell_two rfl _ _ w.heap.size 26 _ (0, 0) _ rfl HF1.out Tryd.underlying26 rfl (by kernel_rfl)) rfl ?_
    exact ⟨by go_grown, .inr ⟨HZ.out, a1, c1, a2, c2, pe, HS4.out, rfl, ⟨HI4.out.1.1.below4 HI4.out.1.2 _ _ _ _, HI4.out.1.2⟩, HI4.out.2.1.below4 HI4.out.2.2 _ _ _ _, HI4.out.2.2⟩⟩

set_option maxHeartbeats 3200000 in
theorem specReadSeq (F : Nat → Option (Int × Nat)) (s : ByteArray) (a : Int) (w : World) (hm : s.size ≤ maxLen) (hF : IsCnt s F) :
    Calls Tryd.prog 27 #[.string s, .int .i64 a] w fun e w' => Below w.heap.size w w' ∧
      ((rdOk F s (st0 s a) = false ∧ e = .returned (.tuple #[.agg #[.int .i64 0, .int .i64 0, .slice none 0 0, .slice none 0 0], .int .i64 0, .bool false])) ∨
       (rdOk F s (st0 s a) = true ∧ ∃ a1 c1 a2 c2 pe, rdE F s (st0 s a) = some pe ∧ e = .returned (.tuple #[.agg #[.int .i64 (rdL F (st0 s a)), .int .i64 (rdB F s (st0 s a)), .slice a1 (rdX F s (st0 s a)).length c1, .slice a2 (rdY F s (st0 s a)).length c2], .int .i64 (pe : Int), .bool true]) ∧
          Ints w' a1 (rdX F s (st0 s a)) ∧ Ints w' a2 (rdY F s (st0 s a)))) := by
  have Z := Blk.new w #[.int .i64 0, .int .i64 0, .slice none 0 0, .slice none 0 0] 26
  have hbA := (Below.refl w.heap.size w).alloc (Nat.le_refl _) (.cells #[.int .i64 0, .int .i64 0, .slice none 0 0, .slice none 0 0] 26)
  have HR : Hid (∀ w', Calls Tryd.prog 60 #[.string s] w' fun e w'' => e = .returned (.bool (rowOkB s)) ∧ w'' = w') := fun w' => specRowOk s w' hm
  have hm' : (s.size : Int) ≤ 9223372036854775807 := by unfold maxLen at hm; omega
  cases hr : rowOkB s with
  | false =>
    have HV : Hid (rdOk F s (st0 s a) = false) := by
      show _ = _
      unfold st0 placeB; rw [hr]; simp; rfl
    rw [hr] at HR
    go_enter Tryd.func27, Tryd.ntmps27
    go_wp2_with (first
      | (go_at_call 60; refine (HR.out _).mono ?_; rintro e w1 ⟨rfl, hw⟩; subst w1)
      | (go_at_call 54; refine (in_any _ _ _ _).mono ?_; rintro e w1 ⟨rfl, hw⟩; subst w1))
    (try simp only [Exit.inBlock, Exit.then])
    refine bodyPost_ret (results_cell_two rfl _ _ w.heap.size 26 _ (0, 0) _ rfl Z Tryd.underlying26 rfl (by kernel_rfl)) rfl ?_
    exact ⟨hbA, .inl ⟨HV.out, rfl⟩⟩
  | true =>
    rw [hr] at HR
    by_cases c1 : a < 0 ∨ (s.size : Int) < a
    · have i1 : (decide ((0 : Int) ≤ a) && decide (a ≤ (s.size : Int))) = false := by simp; omega
      have HV : Hid (rdOk F s (st0 s a) = false) := by
        show _ = _
        unfold st0 placeB; rw [i1]; simp; rfl
      clear c1
      go_enter Tryd.func27, Tryd.ntmps27
      go_wp2_with (first
        | (go_at_call 60; refine (HR.out _).mono ?_; rintro e w1 ⟨rfl, hw⟩; subst w1)
        | (go_at_call 54; refine (in_any _ _ _ _).mono ?_; rintro e w1 ⟨rfl, hw⟩; subst w1))
      (try simp only [Exit.inBlock, Exit.then])
      refine bodyPost_ret (results_cell_two rfl _ _ w.heap.size 26 _ (0, 0) _ rfl Z Tryd.underlying26 rfl (by kernel_rfl)) rfl ?_
      exact ⟨hbA, .inl ⟨HV.out, rfl⟩⟩
    · have i1 : (decide ((0 : Int) ≤ a) && decide (a ≤ (s.size : Int))) = true := by simp; omega
      obtain ⟨b, rfl⟩ := Int.eq_ofNat_of_zero_le (show 0 ≤ a by omega)
      have HV : Hid (st0 s (b : Int) = some b) := by
        show _ = _
        unfold st0 placeB; rw [i1, hr]; simp
      have HA : Hid (∀ w', Calls Tryd.prog 61 #[.string s, .int .i64 (b : Int)] w' _) := fun w' => specSeqAt F s b w' hF hr (by omega)
      rw [HV.out]
      have c0 : (b : Int) ≤ (s.size : Int) := by omega
      clear HV c1 hr hF
      generalize rdOk F s (some b) = ok at *
      generalize rdE F s (some b) = st4 at *
      generalize rdX F s (some b) = xs at *
      generalize rdY F s (some b) = ys at *
      generalize rdL F (some b) = l at *
      generalize rdB F s (some b) = bb at *
      go_enter Tryd.func27, Tryd.ntmps27
      go_wp2_with (first
        | (go_at_call 60; refine (HR.out _).mono ?_; rintro e w1 ⟨rfl, hw⟩; subst w1)
        | (go_at_call 54; refine (in_any _ _ _ _).mono ?_; rintro e w1 ⟨rfl, hw⟩; subst w1))
      refine (HA.out _).mono ?_
      rintro e w1 ⟨hc, ⟨hok, rfl⟩ | ⟨hok, a1, c1, a2, c2, pe, hs4, rfl, hi1, hi2⟩⟩
      · have Z2 := Z.below hc Z.lt
        obtain ⟨⟨z0, z1, z2, z3⟩, g0, g1, g2, g3⟩ := Z2.four
        have hb2 := hbA.trans (hc.mono hbA.size)
        have HF1 : Hid (Blk _ _ _ _) := Z2.fill (.int .i64 0) (.int .i64 0) (.slice none 0 0) (.slice none 0 0)
        have HK : Hid (ok = false) := hok
        clear hc Z Z2 hbA hok
        go_wp2
        (try simp only [Exit.inBlock, Exit.then])
        refine bodyPost_ret (results_cell_two rfl _ _ w.heap.size 26 _ (0, 0) _ rfl HF1.out Tryd.underlying26 rfl (by kernel_rfl)) rfl ?_
        exact ⟨by go_grown, .inl ⟨HK.out, rfl⟩⟩
      · have Z2 := Z.below hc Z.lt
        obtain ⟨⟨z0, z1, z2, z3⟩, g0, g1, g2, g3⟩ := Z2.four
        have hb2 := hbA.trans (hc.mono hbA.size)
        have HF1 : Hid (Blk _ _ _ _) := Z2.fill (.int .i64 l) (.int .i64 bb) (.slice a1 xs.length c1) (.slice a2 ys.length c2)
        have HK : Hid (ok = true ∧ st4 = some pe) := ⟨hok, hs4⟩
        have HI : Hid ((Ints w1 a1 xs ∧ ∀ k, a1 = some k → w.heap.size < k.block) ∧ (Ints w1 a2 ys ∧ ∀ k, a2 = some k → w.heap.size < k.block)) := ⟨⟨hi1.1, fun k hk => by have := hi1.2 k hk; simp at this; omega⟩, hi2.1, fun k hk => by have := hi2.2 k hk; simp at this; omega⟩
        clear hc Z Z2 hbA hok hs4 hi1 hi2
        go_wp2
        (try simp only [Exit.inBlock, Exit.then])
        refine bodyPost_ret (results_cell_two rfl _ _ w.heap.size 26 _ (0, 0) _ rfl HF1.out Tryd.underlying26 rfl (by kernel_rfl)) rfl ?_
        refine ⟨by go_grown, .inr ⟨HK.out.1, a1, c1, a2, c2, pe, HK.out.2, rfl, ?_, ?_⟩⟩
        · exact HI.out.1.1.below4 HI.out.1.2 _ _ _ _
        · exact HI.out.2.1.below4 HI.out.2.2 _ _ _ _
end Go.Proofs.YtijaehhpebllcaaDoor
