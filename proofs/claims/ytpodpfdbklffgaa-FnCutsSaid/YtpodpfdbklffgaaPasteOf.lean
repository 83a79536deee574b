/-
  A picture put into another one: the walks of impl.Pasted and spec.Pasted.
-/
import Derived.Test.YtpodpfdbklffgaaCropOf
import Derived.Test.YtpodpfdbklffgaaPasteKit
import Derived.Deep.CutRange
namespace Go.Proofs.Ytpodpfdbklffgaa
open Go.RowKit
set_option linter.unusedVariables false
set_option maxRecDepth 20000

set_option maxHeartbeats 800000 in
theorem rect_any (W H : Int) (q : ByteArray) (l t : Int) (w : World) :
    Calls Try.prog 45 #[.agg #[.int .i64 W, .int .i64 H, .string q, .int .i64 l, .int .i64 t]] w fun e w' => e = .returned (rectW l t W H) ∧ Below w.heap.size w w' := by
  go_enter Try.func45, Try.ntmps45
  go_wp2
  (try simp only [Exit.inBlock, Exit.then])
  refine bodyPost_ret (results_cell_row rfl _ _ (w.heap.size + 1) 31 _ (0, 0) _ rfl (Blk.new' _ _ (by simp)) Try.underlying31 rfl (by kernel_rfl)) rfl ?_
  exact ⟨rfl, by go_grown⟩

set_option maxHeartbeats 800000 in
theorem clone_any (s : ByteArray) (w : World) (hs : s.size ≤ 1048576) :
    Calls Try.prog 63 #[.string s] w fun e w' => e = .returned (.string s) ∧ Below w.heap.size w w' := by
  have C : Hid (∀ w', Calls Try.prog 71 #[.string s] w' (fun e w'' => e = .returned (.string s) ∧ Below w'.heap.size w' w'')) := fun w' => Try.stringslite_Clone s w' (by omega)
  clear hs
  go_enter Try.func63, Try.ntmps63
  go_wp2_with (go_at_call 71; refine (C.out _).mono ?_; rintro e w1 ⟨rfl, hc1⟩)
  go_ret
  exact ⟨rfl, hc1⟩

set_option maxHeartbeats 1600000 in
theorem copied_any (W H : Int) (s : ByteArray) (w : World) (hs : s.size ≤ 1048576) :
    Calls Try.prog 46 #[picV W H s] w fun e w' => e = .returned (picV W H s) ∧ Below w.heap.size w w' := by
  have C : Hid (∀ w', Calls Try.prog 63 #[.string s] w' (fun e w'' => e = .returned (.string s) ∧ Below w'.heap.size w' w'')) := fun w' => clone_any s w' hs
  clear hs
  go_enter Try.func46, Try.ntmps46
  go_wp2_with fail
  generalize hW : World.alloc w _ = V
  have A0 : Blk V w.heap.size #[.int .i64 W, .int .i64 H, .string s] 25 := by rw [← hW]; exact Blk.new w _ _
  have hs0 : V.heap.size = w.heap.size + 1 := by rw [← hW]; simp
  have hb0 : Below w.heap.size w V := by rw [← hW]; exact (Below.refl _ _).alloc (Nat.le_refl _) _
  clear hW
  generalize hX : World.alloc V _ = X
  have A1 : Blk X w.heap.size #[.int .i64 W, .int .i64 H, .string s] 25 := by rw [← hX]; exact A0.alloc _
  have B1 : Blk X (w.heap.size + 1) #[.int .i64 0, .int .i64 0, .string ⟨#[]⟩] 25 := by rw [← hX, ← hs0]; exact Blk.new V _ _
  have hb1 : Below w.heap.size w X := by rw [← hX]; exact hb0.alloc hb0.size _
  clear hX hb0 A0 hs0
  have BK : Hid (∀ w', Below X.heap.size X w' → (w'.cell? ⟨w.heap.size, 0, none⟩ = some (.int .i64 W) ∧ w'.cell? ⟨w.heap.size, 1, none⟩ = some (.int .i64 H) ∧ w'.cell? ⟨w.heap.size, 2, none⟩ = some (.string s)) ∧ Blk w' (w.heap.size + 1) #[.int .i64 0, .int .i64 0, .string ⟨#[]⟩] 25) := fun w' h => ⟨(A1.below h A1.lt).three.1, B1.below h B1.lt⟩
  have hlt := B1.lt
  clear A1 B1
  obtain ⟨⟨x0, x1, x2⟩, _⟩ := BK.out X (Below.refl _ _)
  go_region_held3 (fun w' => w'.cell? ⟨w.heap.size, 0, none⟩ = some (.int .i64 W) ∧ w'.cell? ⟨w.heap.size, 1, none⟩ = some (.int .i64 H) ∧ w'.cell? ⟨w.heap.size, 2, none⟩ = some (.string s))
    (first | go_keep | exact (BK.out _ hc2).1)
    (first
      | (go_at_call 63; refine (C.out _).mono ?_; rintro e w2 ⟨rfl, hr⟩; have hc2 := (Below.refl X.heap.size X).drew.trans hr; have K6 := (BK.out w2 hc2).2; obtain ⟨⟨z0, z1, z2⟩, f0, f1, f2⟩ := K6.three))
  have hb7 := hb1.trans (hc2.mono hb1.size)
  have KR := K6.pic (.int .i64 W) (.int .i64 H) (.string s)
  have hbr := below_pic hb7 (g := w.heap.size + 1) (by omega) (.int .i64 W) (.int .i64 H) (.string s)
  go_wp2
  (try simp only [Exit.inBlock, Exit.then])
  refine bodyPost_ret (results_cell_row rfl _ _ (w.heap.size + 1) 25 _ (0, 0) _ rfl KR Try.underlying25 rfl (by kernel_rfl)) rfl ?_
  exact ⟨rfl, hbr⟩

set_option maxHeartbeats 1600000 in
theorem row_any (W H : Int) (q : ByteArray) (k m : Nat) (w : World) (hW : W = (m : Int)) (hm : m ≤ 256) (hk : k < 256) (hq : k * m + m ≤ q.size) (hs : (q.size : Int) ≤ 65536) :
    Calls Try.prog 48 #[picV W H q, .int .i64 (k : Int)] w fun e w' => e = .returned (.string (q.extract (k * m) (k * m + m))) ∧ Below w.heap.size w w' := by
  subst hW
  have hkm : k * m ≤ 256 * 256 := Nat.mul_le_mul (by omega) hm
  have e1 : (k : Int) * (m : Int) = ((k * m : Nat) : Int) := by simp
  have CD : Hid (∀ w', Calls Try.prog 43 #[picV (m : Int) H q, .int .i64 0, .int .i64 (k : Int), .int .i64 (m : Int)] w' (fun e w'' => e = .returned (.string (q.extract (k * m) (k * m + m))) ∧ Below w'.heap.size w' w'')) := fun w' => dotsAt_any (m : Int) H q 0 (k : Int) (k * m) m w' (by omega) (by rw [e1]; omega) (by omega) hq hs
  generalize q.extract (k * m) (k * m + m) = T at *
  clear hm hk hq hs hkm e1
  go_enter Try.func48, Try.ntmps48
  go_wp2_with (go_at_call 43; refine (CD.out _).mono ?_; rintro e w1 ⟨rfl, hc1⟩)
  go_ret
  exact ⟨rfl, ((Below.refl _ _).alloc (Nat.le_refl _) _).trans (hc1.mono (by simp))⟩

/-- The cells of two pictures and of a picture with a place. -/
abbrev PasteIn (w : World) (g1 g2 g3 : Nat) (W H : Int) (s : ByteArray) (W' H' : Int) (q : ByteArray) (l t : Int) : Prop :=
  (w.cell? ⟨g1, 0, none⟩ = some (.int .i64 W) ∧ w.cell? ⟨g1, 1, none⟩ = some (.int .i64 H) ∧ w.cell? ⟨g1, 2, none⟩ = some (.string s)) ∧
  (w.cell? ⟨g2, 0, none⟩ = some (.int .i64 W') ∧ w.cell? ⟨g2, 1, none⟩ = some (.int .i64 H') ∧ w.cell? ⟨g2, 2, none⟩ = some (.string q)) ∧
  (w.cell? ⟨g3, 0, none⟩ = some (.int .i64 W') ∧ w.cell? ⟨g3, 1, none⟩ = some (.int .i64 H') ∧ w.cell? ⟨g3, 2, none⟩ = some (.string q) ∧ w.cell? ⟨g3, 3, none⟩ = some (.int .i64 l) ∧ w.cell? ⟨g3, 4, none⟩ = some (.int .i64 t))

set_option maxHeartbeats 3200000 in
theorem implPasted (W H : Int) (s : ByteArray) (W' H' : Int) (q : ByteArray) (l t : Int) (w : World) (hs : s.size ≤ 1048576) :
    Calls Try.prog 16 #[picV W H s, picV W' H' q, .int .i64 l, .int .i64 t] w fun e w' => e = .returned (pasteV W H s W' H' q l t) ∧ Below w.heap.size w w' := by
  have CC : Hid (∀ w', Calls Try.prog 46 #[picV W H s] w' (fun e w'' => e = .returned (picV W H s) ∧ Below w'.heap.size w' w'')) := fun w' => copied_any W H s w' hs
  have C1 : Hid (∀ w', Calls Try.prog 21 #[picV W H s] w' (fun e w'' => e = .returned (.bool (picB W H s)) ∧ Below w'.heap.size w' w'')) := fun w' => implPicOk W H s w'
  have C2 : Hid (∀ w', Calls Try.prog 21 #[picV W' H' q] w' (fun e w'' => e = .returned (.bool (picB W' H' q)) ∧ Below w'.heap.size w' w'')) := fun w' => implPicOk W' H' q w'
  have CH : Hid (picB W H s = true → picB W' H' q = true → ∀ w', Calls Try.prog 41 #[picV W H s, rectW l t W' H'] w' (fun e w'' => e = .returned (.bool (inRB W H l t W' H')) ∧ Below w'.heap.size w' w'')) := fun h h' w' => holds_any W H s l t W' H' w' (picB_iff.1 h).1 (picB_iff.1 h).2.1 (by have := (picB_iff.1 h').1; omega) (by have := (picB_iff.1 h').2.1; omega)
  have HP : Hid (picB W H s = true → (1 ≤ W ∧ W ≤ 256) ∧ (1 ≤ H ∧ H ≤ 256) ∧ (s.size : Int) = W * H) := picB_iff.1
  have HQ : Hid (picB W' H' q = true → (1 ≤ W' ∧ W' ≤ 256) ∧ (1 ≤ H' ∧ H' ≤ 256) ∧ (q.size : Int) = W' * H') := picB_iff.1
  have HRi : Hid (inRB W H l t W' H' = true → (0 ≤ l ∧ 1 ≤ W' ∧ l ≤ W - W') ∧ (0 ≤ t ∧ 1 ≤ H' ∧ t ≤ H - H')) := inRB_iff.1
  have HRw : Hid (∀ k : Nat, inRB W H l t W' H' = true → (s.size : Int) = W * H → 1 ≤ W → (k : Int) < H' → (t + (k : Int)) * W + l = (rowA W l t k : Int) ∧ 0 ≤ (t + (k : Int)) * W ∧ (rowA W l t k : Int) + W' ≤ (s.size : Int)) := fun k h hz hW hk => rowA_in h hz hW hk
  have HV : Hid (pasteV W H s W' H' q l t = if picB W H s && picB W' H' q && inRB W H l t W' H' then .tuple #[picV W H (pasteS W l t W' H' s q), .bool true] else .tuple #[picV W H s, .bool false]) := rfl
  generalize pasteV W H s W' H' q l t = PV at *
  generalize picB W H s = b1 at *
  generalize picB W' H' q = b2 at *
  generalize inRB W H l t W' H' = b3 at *
  clear hs
  go_enter Try.func16, Try.ntmps16
  go_wp2_with fail
  generalize hW : World.alloc w _ = V
  have A0 : Blk V w.heap.size #[.int .i64 W, .int .i64 H, .string s] 25 := by rw [← hW]; exact Blk.new w _ _
  have hs0 : V.heap.size = w.heap.size + 1 := by rw [← hW]; simp
  have hb0 : Below w.heap.size w V := by rw [← hW]; exact (Below.refl _ _).alloc (Nat.le_refl _) _
  clear hW
  generalize hX : World.alloc V _ = X
  have A1 : Blk X w.heap.size #[.int .i64 W, .int .i64 H, .string s] 25 := by rw [← hX]; exact A0.alloc _
  have B1 : Blk X (w.heap.size + 1) #[.int .i64 W', .int .i64 H', .string q] 25 := by rw [← hX, ← hs0]; exact Blk.new V _ _
  have hs1 : X.heap.size = w.heap.size + 1 + 1 := by rw [← hX]; simp [hs0]
  have hb1 : Below w.heap.size w X := by rw [← hX]; exact hb0.alloc hb0.size _
  clear hX hb0 A0 hs0
  generalize hU : World.alloc X _ = U
  have A2 : Blk U w.heap.size #[.int .i64 W, .int .i64 H, .string s] 25 := by rw [← hU]; exact A1.alloc _
  have B2 : Blk U (w.heap.size + 1) #[.int .i64 W', .int .i64 H', .string q] 25 := by rw [← hU]; exact B1.alloc _
  have E2 : Blk U (w.heap.size + 1 + 1) #[.int .i64 0, .int .i64 0, .string ⟨#[]⟩] 25 := by rw [← hU, ← hs1]; exact Blk.new X _ _
  have hs2 : U.heap.size = w.heap.size + 1 + 1 + 1 := by rw [← hU]; simp [hs1]
  have hb2 : Below w.heap.size w U := by rw [← hU]; exact hb1.alloc hb1.size _
  clear hU hb1 A1 B1 hs1
  generalize hY : World.alloc U _ = Y
  have A3 : Blk Y w.heap.size #[.int .i64 W, .int .i64 H, .string s] 25 := by rw [← hY]; exact A2.alloc _
  have B3 : Blk Y (w.heap.size + 1) #[.int .i64 W', .int .i64 H', .string q] 25 := by rw [← hY]; exact B2.alloc _
  have E3 : Blk Y (w.heap.size + 1 + 1) #[.int .i64 0, .int .i64 0, .string ⟨#[]⟩] 25 := by rw [← hY]; exact E2.alloc _
  have F3 : Blk Y (w.heap.size + 1 + 1 + 1) #[.int .i64 W', .int .i64 H', .string q, .int .i64 l, .int .i64 t] 71 := by rw [← hY, ← hs2]; exact Blk.new U _ _
  have hb3 : Below w.heap.size w Y := by rw [← hY]; exact hb2.alloc hb2.size _
  clear hY hb2 A2 B2 E2 hs2
  have BK : Hid (∀ w', Below Y.heap.size Y w' → PasteIn w' w.heap.size (w.heap.size + 1) (w.heap.size + 1 + 1 + 1) W H s W' H' q l t) := fun w' h => ⟨(A3.below h A3.lt).three.1, (B3.below h B3.lt).three.1, by
    have F4 := F3.below h F3.lt
    exact ⟨F4.cell 0, F4.cell 1, F4.cell 2, F4.cell 3, F4.cell 4⟩⟩
  have BR : Hid (∀ w', Below Y.heap.size Y w' → Blk w' (w.heap.size + 1 + 1) #[.int .i64 0, .int .i64 0, .string ⟨#[]⟩] 25) := fun w' h => E3.below h E3.lt
  have hltY := F3.lt
  clear A3 B3 E3 F3
  go_cut [31] from 17 to 30 (fun p1 wc => p1 = .bool (!(b1 && b2 && b3)) ∧ Below Y.heap.size Y wc)
  case first =>
    have K0 := BK.out Y.drew (Below.refl Y.heap.size Y).drew
    have CH2 : Hid (b1 = true → b2 = true → ∀ w', Calls Try.prog 41 #[picV W H s, rectW l t W' H'] w' (fun e w'' => e = .returned (.bool b3) ∧ Below w'.heap.size w' w'')) := CH.out
    clear CH HP HQ HRi HRw CC BR hb3 hltY
    have K0' := K0
    obtain ⟨⟨p00, p01, p02⟩, ⟨q00, q01, q02⟩, r00, r01, r02, r03, r04⟩ := K0'
    cases b1
    · first | (go_region_with (first
          | (go_at_call_of 21 (Value.string s); refine (C1.out _).mono ?_; rintro e w1 ⟨rfl, hr⟩; have hc1 : Below Y.heap.size Y w1 := (Below.refl Y.heap.size Y).drew.trans hr; clear hr; obtain ⟨⟨p10, p11, p12⟩, ⟨q10, q11, q12⟩, r10, r11, r12, r13, r14⟩ := BK.out _ hc1)
          | (go_at_call_of 21 (Value.string q); refine (C2.out _).mono ?_; rintro e w2 ⟨rfl, hr⟩; have hc2 : Below Y.heap.size Y w2 := hc1.trans (hr.mono hc1.size); clear hr; obtain ⟨⟨p20, p21, p22⟩, ⟨q20, q21, q22⟩, r20, r21, r22, r23, r24⟩ := BK.out _ hc2)
          | (go_at_call 45; refine (rect_any _ _ _ _ _ _).mono ?_; rintro e w3 ⟨rfl, hr⟩; have hc3 : Below Y.heap.size Y w3 := hc2.trans (hr.mono hc2.size); clear hr; obtain ⟨⟨p30, p31, p32⟩, ⟨q30, q31, q32⟩, r30, r31, r32, r33, r34⟩ := BK.out _ hc3)
          | (go_at_call 41; refine (CH2.out _).mono ?_; rintro e w4 ⟨rfl, hr⟩; have hc4 : Below Y.heap.size Y w4 := hc3.trans (hr.mono hc3.size); clear hr; obtain ⟨⟨p40, p41, p42⟩, ⟨q40, q41, q42⟩, r40, r41, r42, r43, r44⟩ := BK.out _ hc4))) | fail
      all_goals
        go_wp2_with fail
        go_meet
        first
        | exact ⟨rfl, hc4⟩
        | exact ⟨rfl, hc3⟩
        | exact ⟨rfl, hc2⟩
        | exact ⟨rfl, hc1⟩
    · cases b2
      · first | (go_region_with (first
            | (go_at_call_of 21 (Value.string s); refine (C1.out _).mono ?_; rintro e w1 ⟨rfl, hr⟩; have hc1 : Below Y.heap.size Y w1 := (Below.refl Y.heap.size Y).drew.trans hr; clear hr; obtain ⟨⟨p10, p11, p12⟩, ⟨q10, q11, q12⟩, r10, r11, r12, r13, r14⟩ := BK.out _ hc1)
            | (go_at_call_of 21 (Value.string q); refine (C2.out _).mono ?_; rintro e w2 ⟨rfl, hr⟩; have hc2 : Below Y.heap.size Y w2 := hc1.trans (hr.mono hc1.size); clear hr; obtain ⟨⟨p20, p21, p22⟩, ⟨q20, q21, q22⟩, r20, r21, r22, r23, r24⟩ := BK.out _ hc2)
            | (go_at_call 45; refine (rect_any _ _ _ _ _ _).mono ?_; rintro e w3 ⟨rfl, hr⟩; have hc3 : Below Y.heap.size Y w3 := hc2.trans (hr.mono hc2.size); clear hr; obtain ⟨⟨p30, p31, p32⟩, ⟨q30, q31, q32⟩, r30, r31, r32, r33, r34⟩ := BK.out _ hc3)
            | (go_at_call 41; refine (CH2.out _).mono ?_; rintro e w4 ⟨rfl, hr⟩; have hc4 : Below Y.heap.size Y w4 := hc3.trans (hr.mono hc3.size); clear hr; obtain ⟨⟨p40, p41, p42⟩, ⟨q40, q41, q42⟩, r40, r41, r42, r43, r44⟩ := BK.out _ hc4))) | fail
        all_goals
          go_wp2_with fail
          go_meet
          first
          | exact ⟨rfl, hc4⟩
          | exact ⟨rfl, hc3⟩
          | exact ⟨rfl, hc2⟩
          | exact ⟨rfl, hc1⟩
      · have CH3 := CH2.out rfl rfl
        clear CH2
        have CH2 : Hid (∀ w', Calls Try.prog 41 #[picV W H s, rectW l t W' H'] w' (fun e w'' => e = .returned (.bool b3) ∧ Below w'.heap.size w' w'')) := CH3
        clear CH3
        cases b3
        · first | (go_region_with (first
              | (go_at_call_of 21 (Value.string s); refine (C1.out _).mono ?_; rintro e w1 ⟨rfl, hr⟩; have hc1 : Below Y.heap.size Y w1 := (Below.refl Y.heap.size Y).drew.trans hr; clear hr; obtain ⟨⟨p10, p11, p12⟩, ⟨q10, q11, q12⟩, r10, r11, r12, r13, r14⟩ := BK.out _ hc1)
              | (go_at_call_of 21 (Value.string q); refine (C2.out _).mono ?_; rintro e w2 ⟨rfl, hr⟩; have hc2 : Below Y.heap.size Y w2 := hc1.trans (hr.mono hc1.size); clear hr; obtain ⟨⟨p20, p21, p22⟩, ⟨q20, q21, q22⟩, r20, r21, r22, r23, r24⟩ := BK.out _ hc2)
              | (go_at_call 45; refine (rect_any _ _ _ _ _ _).mono ?_; rintro e w3 ⟨rfl, hr⟩; have hc3 : Below Y.heap.size Y w3 := hc2.trans (hr.mono hc2.size); clear hr; obtain ⟨⟨p30, p31, p32⟩, ⟨q30, q31, q32⟩, r30, r31, r32, r33, r34⟩ := BK.out _ hc3)
              | (go_at_call 41; refine (CH2.out _).mono ?_; rintro e w4 ⟨rfl, hr⟩; have hc4 : Below Y.heap.size Y w4 := hc3.trans (hr.mono hc3.size); clear hr; obtain ⟨⟨p40, p41, p42⟩, ⟨q40, q41, q42⟩, r40, r41, r42, r43, r44⟩ := BK.out _ hc4))) | fail
          all_goals
            go_wp2_with fail
            go_meet
            first
            | exact ⟨rfl, hc4⟩
            | exact ⟨rfl, hc3⟩
            | exact ⟨rfl, hc2⟩
            | exact ⟨rfl, hc1⟩
        · first | (go_region_with (first
              | (go_at_call_of 21 (Value.string s); refine (C1.out _).mono ?_; rintro e w1 ⟨rfl, hr⟩; have hc1 : Below Y.heap.size Y w1 := (Below.refl Y.heap.size Y).drew.trans hr; clear hr; obtain ⟨⟨p10, p11, p12⟩, ⟨q10, q11, q12⟩, r10, r11, r12, r13, r14⟩ := BK.out _ hc1)
              | (go_at_call_of 21 (Value.string q); refine (C2.out _).mono ?_; rintro e w2 ⟨rfl, hr⟩; have hc2 : Below Y.heap.size Y w2 := hc1.trans (hr.mono hc1.size); clear hr; obtain ⟨⟨p20, p21, p22⟩, ⟨q20, q21, q22⟩, r20, r21, r22, r23, r24⟩ := BK.out _ hc2)
              | (go_at_call 45; refine (rect_any _ _ _ _ _ _).mono ?_; rintro e w3 ⟨rfl, hr⟩; have hc3 : Below Y.heap.size Y w3 := hc2.trans (hr.mono hc2.size); clear hr; obtain ⟨⟨p30, p31, p32⟩, ⟨q30, q31, q32⟩, r30, r31, r32, r33, r34⟩ := BK.out _ hc3)
              | (go_at_call 41; refine (CH2.out _).mono ?_; rintro e w4 ⟨rfl, hr⟩; have hc4 : Below Y.heap.size Y w4 := hc3.trans (hr.mono hc3.size); clear hr; obtain ⟨⟨p40, p41, p42⟩, ⟨q40, q41, q42⟩, r40, r41, r42, r43, r44⟩ := BK.out _ hc4))) | fail
          all_goals
            go_wp2_with fail
            go_meet
            first
            | exact ⟨rfl, hc4⟩
            | exact ⟨rfl, hc3⟩
            | exact ⟨rfl, hc2⟩
            | exact ⟨rfl, hc1⟩
  case rest =>
  revert hcut
  generalize wc = wx
  rintro ⟨h31, hx⟩
  have hbx := hb3.trans (hx.mono hb3.size)
  obtain ⟨⟨x0, x1, x2⟩, ⟨y0, y1, y2⟩, r0, r1, r2, r3, r4⟩ := BK.out wx hx
  have KX := BR.out wx hx
  cases hbb : (b1 && b2 && b3) with
  | false =>
    rw [hbb] at h31
    obtain rfl : u31 = .bool true := h31
    have HVf : Hid (PV = .tuple #[picV W H s, .bool false]) := by
      show _ = _
      rw [HV.out, hbb]
      rfl
    clear HV CH HP HQ HRi HRw
    go_wp2_with fail
    refine (CC.out wx).mono ?_
    rintro e w2 ⟨rfl, hr⟩
    have hx2 := hx.trans (hr.mono hx.size)
    have hb7 := hb3.trans (hx2.mono hb3.size)
    have K6 := BR.out w2 hx2
    obtain ⟨⟨z0, z1, z2⟩, f0, f1, f2⟩ := K6.three
    have KR := K6.pic (.int .i64 W) (.int .i64 H) (.string s)
    have hbr := below_pic hb7 (g := w.heap.size + 1 + 1) (by omega) (.int .i64 W) (.int .i64 H) (.string s)
    clear hr hx2 hb7 K6 hbx x0 x1 x2 y0 y1 y2 r0 r1 r2 r3 r4 KX
    go_wp2
    (try simp only [Exit.inBlock, Exit.then])
    refine bodyPost_ret (results_cell_and rfl _ _ (w.heap.size + 1 + 1) 25 _ (0, 0) _ rfl KR Try.underlying25 rfl (by kernel_rfl)) rfl ?_
    exact ⟨by rw [HVf.out]; rfl, hbr⟩
  | true =>
    rw [hbb] at h31
    obtain rfl : u31 = .bool false := h31
    have hb' : (b1 = true ∧ b2 = true) ∧ b3 = true := by simpa using hbb
    obtain ⟨⟨rfl, rfl⟩, rfl⟩ := hb'
    obtain ⟨p1, p2, p3⟩ := HP.out rfl
    obtain ⟨q1, q2, q3⟩ := HQ.out rfl
    obtain ⟨⟨s1, s2, s3⟩, s4, s5, s6⟩ := HRi.out rfl
    have HRx : Hid (∀ k : Nat, (k : Int) < H' → (t + (k : Int)) * W + l = (rowA W l t k : Int) ∧ 0 ≤ (t + (k : Int)) * W ∧ (rowA W l t k : Int) + W' ≤ (s.size : Int)) := fun k hk => HRw.out k rfl p3 p1.1 hk
    have HVt : Hid (PV = .tuple #[picV W H (pasteS W l t W' H' s q), .bool true]) := HV.out
    clear HV CH HP HQ HRi HRw hbb CC C1 C2 hbx
    have m1 := sides_mul p1 p2
    have m2 := sides_mul q1 q2
    obtain ⟨cap0, w1, hcv, hown0, hgr0⟩ := bytes_mark wx s (by unfold maxLen; omega)
    rw [cellsU_bytes] at hown0
    have hx1 := hx.grown hgr0 hx.size (fun j hj => by cases hj)
    have hsx := hx.size
    obtain ⟨⟨x0', x1', x2'⟩, ⟨y0', y1', y2'⟩, r0', r1', r2', r3', r4'⟩ := BK.out w1 hx1
    obtain ⟨m, hm⟩ : ∃ m : Nat, W' = (m : Int) := ⟨W'.toNat, by omega⟩
    obtain ⟨n, hn⟩ : ∃ n : Nat, H' = (n : Int) := ⟨H'.toNat, by omega⟩
    subst hm hn
    have h65 : (s.size : Int) ≤ 65536 := by omega
    have g65 : (q.size : Int) ≤ 65536 := by omega
    have Q3 : Hid ((q.size : Int) = (m : Int) * (n : Int)) := q3
    clear KX p3 q3 m1 m2
    have hcap : s.size ≤ cap0 := by
      obtain ⟨_, g', c', cur, fz, e', _, _, _, h5, _⟩ := hown0
      cases e'
      exact h5
    have HO0 : Hid (OwnM w1 wx.heap.size 5 (.slice (some ⟨wx.heap.size, 0, none⟩) s.size cap0) s.size (cellsU s.size (bAt s))) := hown0
    clear hown0 hgr0
    go_wp2_with fail
    clear hcv
    go_loopw [40] (fun i wr => ∃ k : Nat, k ≤ n ∧ i = .int .i64 (k : Int) ∧ Hid (OwnM wr wx.heap.size 5 (.slice (some ⟨wx.heap.size, 0, none⟩) s.size cap0) s.size (cellsU s.size (pasteR W l t (m : Int) s q k))) ∧ Below Y.heap.size Y wr) (fun i _ => n - (intOf i).toNat)
    case atStart => exact ⟨0, Nat.zero_le _, rfl, HO0, hx1⟩
    case round =>
      obtain ⟨k, hk, rfl, HOk, hxr⟩ := hrel
      clear HO0 hx1 x0 x1 x2 y0 y1 y2 r0 r1 r2 r3 r4 x0' x1' x2' y0' y1' y2' r0' r1' r2' r3' r4'
      have l0 : (0 : Int) ≤ (k : Int) := by omega
      have hxs := hxr.size
      by_cases hlt : k < n
      · have l1 : (k : Int) < (n : Int) := by omega
        obtain ⟨u1, u2, u3⟩ := HRx.out k l1
        have hkm : k * m + m ≤ q.size := by
          have q3 := Q3.out
          have e1 : (((k + 1) * m : Nat) : Int) ≤ ((n * m : Nat) : Int) := Int.ofNat_le.2 (Nat.mul_le_mul_right m hlt)
          have e2 : ((n * m : Nat) : Int) = (m : Int) * (n : Int) := by rw [Int.mul_comm]; simp
          have e3 : (k + 1) * m = k * m + m := by rw [Nat.add_mul, Nat.one_mul]
          omega
        have hT : (q.extract (k * m) (k * m + m)).size = m := by rw [ByteArray.size_extract]; omega
        have HR : Hid ((fun j => if rowA W l t k ≤ j ∧ j < rowA W l t k + (q.extract (k * m) (k * m + m)).size then bAt (q.extract (k * m) (k * m + m)) (j - rowA W l t k) else pasteR W l t (m : Int) s q k j) = pasteR W l t (m : Int) s q (k + 1)) :=
          pasteC_row W l t (m : Int) q _ k m (by simp) hkm
        have CP : Hid (∀ w', Calls Try.prog 47 #[picV W H s, .int .i64 l, .int .i64 (t + (k : Int))] w' (fun e w'' => e = .returned (.int .i64 (rowA W l t k : Int)) ∧ Below w'.heap.size w' w'')) := fun w' => placeOf_any W H s _ _ _ w' u1 ⟨u2, by omega⟩ ⟨s1, by omega⟩
        have CR : Hid (∀ w', Calls Try.prog 48 #[picV (m : Int) (n : Int) q, .int .i64 (k : Int)] w' (fun e w'' => e = .returned (.string (q.extract (k * m) (k * m + m))) ∧ Below w'.heap.size w' w'')) := fun w' => row_any (m : Int) (n : Int) q k m w' rfl (by omega) (by omega) hkm (by omega)
        have hAs : rowA W l t k + m ≤ s.size := by omega
        generalize q.extract (k * m) (k * m + m) = T at *
        generalize rowA W l t k = A at *
        have CK : Hid (∀ w', Below wr.heap.size wr w' → ∃ w6, (Builtin.copy_ #[22, 9] 3 #[.slice (some ⟨wx.heap.size, A, none⟩) (s.size - A) (cap0 - A), .string T]).run Try.prog w' = .ok (.int .i64 T.size) w6 ∧
            OwnM w6 wx.heap.size 5 (.slice (some ⟨wx.heap.size, 0, none⟩) s.size cap0) s.size (cellsU s.size (pasteR W l t (m : Int) s q (k + 1))) ∧ w'.grownBy w6 (some wx.heap.size)) := fun w' hb => by
          have ho := HOk.out.kept (grown_of_below hb none) (.inr rfl)
          obtain ⟨w6, c1, c2, c3⟩ := copy_text ho T (A := A) (by omega) (s.size - A) (cap0 - A) (by omega)
          rw [HR.out] at c2
          exact ⟨w6, c1 3, c2, c3⟩
        have a0 : (0 : Int) ≤ (A : Int) := by omega
        have a1 : (A : Int) ≤ (s.size : Int) := by omega
        have a2 : (s.size : Int) ≤ (cap0 : Int) := by omega
        have a3 : A < cap0 := by omega
        have a4 : ¬ cap0 = A := by omega
        have a5 : IntKind.i64.wrap (t + (k : Int)) = t + (k : Int) := IntWalk.i64_in _ ⟨by omega, by omega⟩
        have K0 := BK.out wr.drew hxr.drew
        clear u1 u2 u3 hkm hT HR HOk hAs
        go_wp2_with fail
        go_region_held3 (fun w' => (w'.cell? ⟨w.heap.size, 0, none⟩ = some (.int .i64 W) ∧ w'.cell? ⟨w.heap.size, 1, none⟩ = some (.int .i64 H) ∧ w'.cell? ⟨w.heap.size, 2, none⟩ = some (.string s)) ∧
            (w'.cell? ⟨w.heap.size + 1, 0, none⟩ = some (.int .i64 (m : Int)) ∧ w'.cell? ⟨w.heap.size + 1, 1, none⟩ = some (.int .i64 (n : Int)) ∧ w'.cell? ⟨w.heap.size + 1, 2, none⟩ = some (.string q)) ∧
            (w'.cell? ⟨w.heap.size + 1 + 1 + 1, 0, none⟩ = some (.int .i64 (m : Int)) ∧ w'.cell? ⟨w.heap.size + 1 + 1 + 1, 1, none⟩ = some (.int .i64 (n : Int)) ∧ w'.cell? ⟨w.heap.size + 1 + 1 + 1, 2, none⟩ = some (.string q) ∧ w'.cell? ⟨w.heap.size + 1 + 1 + 1, 3, none⟩ = some (.int .i64 l) ∧ w'.cell? ⟨w.heap.size + 1 + 1 + 1, 4, none⟩ = some (.int .i64 t)))
          (first | with_reducible exact K0 | with_reducible exact BK.out _ hc6 | with_reducible exact BK.out _ hc5 | with_reducible exact BK.out _ hc4)
          (first
            | (go_at_call 47; refine (CP.out _).mono ?_; rintro e w4 ⟨rfl, hr⟩; have hd4 : Below wr.heap.size wr w4 := (Below.refl wr.heap.size wr).drew.trans hr; have hc4 : Below Y.heap.size Y w4 := hxr.trans (hd4.mono hxs); clear hr)
            | (go_at_call 48; refine (CR.out _).mono ?_; rintro e w5 ⟨rfl, hr⟩; have hd5 : Below wr.heap.size wr w5 := hd4.trans (hr.mono hd4.size); have hc5 : Below Y.heap.size Y w5 := hxr.trans (hd5.mono hxs); clear hr; obtain ⟨w6, hcp, ho6, hg6⟩ := CK.out w5 hd5; have hc6 : Below Y.heap.size Y w6 := hc5.grown hg6 hc5.size (fun j hj => by cases hj; exact hsx)))
        clear hcp hg6 K0 CK CP CR
        go_wp2
        go_roundw
        case rel => exact ⟨k + 1, by omega, by go_num, ho6, hc6⟩
        case measure => simp [intOf]; omega
      · obtain rfl : k = n := by omega
        have HS : Hid (strOfNums (listF s.size (pasteR W l t (m : Int) s q k)) = pasteS W l t (m : Int) (k : Int) s q) := rfl
        have hconv0 : (convert 22 9 (.slice (some ⟨wx.heap.size, 0, none⟩) s.size cap0)).run Try.prog wr = .ok (.string (pasteS W l t (m : Int) (k : Int) s q)) wr := conv_mark HOk.out
        generalize pasteS W l t (m : Int) (k : Int) s q = Z at *
        obtain ⟨⟨x0, x1, x2⟩, _⟩ := BK.out wr hxr
        have K6 := BR.out wr hxr
        obtain ⟨⟨z0, z1, z2⟩, f0, f1, f2⟩ := K6.three
        have hb7 := hb3.trans (hxr.mono hb3.size)
        have KR := K6.pic (.int .i64 W) (.int .i64 H) (.string Z)
        have hbr := below_pic hb7 (g := w.heap.size + 1 + 1) (by omega) (.int .i64 W) (.int .i64 H) (.string Z)
        clear K6 hb7 HOk
        go_wp2
        (try simp only [Exit.inBlock, Exit.then])
        refine bodyPost_ret (results_cell_and rfl _ _ (w.heap.size + 1 + 1) 25 _ (0, 0) _ rfl KR Try.underlying25 rfl (by kernel_rfl)) rfl ?_
        exact ⟨by rw [HVt.out]; rfl, hbr⟩
end Go.Proofs.Ytpodpfdbklffgaa
