/-
  A picture put into another one: the walk of spec.Pasted.
-/
import Derived.Test.YtpodpfdbklffgaaCropOf
import Derived.Test.YtpodpfdbklffgaaPasteKit
import Derived.Deep.CutRange
namespace Go.Proofs.Ytpodpfdbklffgaa
open Go.RowKit
set_option linter.unusedVariables false
set_option maxRecDepth 20000

/-- The cells of two pictures. -/
abbrev PairIn (w : World) (g1 g2 : Nat) (W H : Int) (s : ByteArray) (W' H' : Int) (q : ByteArray) : Prop :=
  (w.cell? ⟨g1, 0, none⟩ = some (.int .i64 W) ∧ w.cell? ⟨g1, 1, none⟩ = some (.int .i64 H) ∧ w.cell? ⟨g1, 2, none⟩ = some (.string s)) ∧
  (w.cell? ⟨g2, 0, none⟩ = some (.int .i64 W') ∧ w.cell? ⟨g2, 1, none⟩ = some (.int .i64 H') ∧ w.cell? ⟨g2, 2, none⟩ = some (.string q))

set_option maxHeartbeats 3200000 in
theorem specPasted (W H : Int) (s : ByteArray) (W' H' : Int) (q : ByteArray) (l t : Int) (w : World) :
    Calls Try.prog 34 #[picV W H s, picV W' H' q, .int .i64 l, .int .i64 t] w fun e w' => e = .returned (pasteV W H s W' H' q l t) ∧ Below w.heap.size w w' := by
  have C2 : Hid (∀ w', Calls Try.prog 23 #[picV W' H' q] w' (fun e w'' => e = .returned (.bool (picB W' H' q)) ∧ Below w'.heap.size w' w'')) := fun w' => specPicOk W' H' q w'
  have CW : Hid (∀ w', Calls Try.prog 57 #[picV W H s, .int .i64 l, .int .i64 t, .int .i64 W', .int .i64 H'] w' (fun e w'' => e = .returned (.bool (picB W H s && inRB W H l t W' H')) ∧ Below w'.heap.size w' w'')) := fun w' => within_any W H s l t W' H' w'
  have HP : Hid ((picB W H s && inRB W H l t W' H') = true → ((1 ≤ W ∧ W ≤ 256) ∧ (1 ≤ H ∧ H ≤ 256) ∧ (s.size : Int) = W * H) ∧ ((0 ≤ l ∧ 1 ≤ W' ∧ l ≤ W - W') ∧ (0 ≤ t ∧ 1 ≤ H' ∧ t ≤ H - H')) ∧
      (∀ k : Nat, (k : Int) < H' → (t + (k : Int)) * W + l = (rowA W l t k : Int) ∧ 0 ≤ (t + (k : Int)) * W ∧ (rowA W l t k : Int) + W' ≤ (s.size : Int))) := fun h => by
    have h' : picB W H s = true ∧ inRB W H l t W' H' = true := by simpa using h
    have h1 := picB_iff.1 h'.1
    exact ⟨h1, inRB_iff.1 h'.2, fun k hk => rowA_in h'.2 h1.2.2 h1.1.1 hk⟩
  have HQ : Hid (picB W' H' q = true → (1 ≤ W' ∧ W' ≤ 256) ∧ (1 ≤ H' ∧ H' ≤ 256) ∧ (q.size : Int) = W' * H') := picB_iff.1
  have HV : Hid (pasteV W H s W' H' q l t = if picB W' H' q && (picB W H s && inRB W H l t W' H') then .tuple #[picV W H (pasteS W l t W' H' s q), .bool true] else .tuple #[picV W H s, .bool false]) := by
    show _ = _
    unfold pasteV pasteB
    rw [Bool.and_comm (picB W H s) (picB W' H' q), Bool.and_assoc]
  generalize pasteV W H s W' H' q l t = PV at *
  generalize picB W' H' q = b2 at *
  generalize (picB W H s && inRB W H l t W' H') = b1 at *
  go_enter Try.func34, Try.ntmps34
  go_wp2_with fail
  generalize hW : World.alloc w _ = V
  have A0 : Blk V w.heap.size #[.int .i64 W, .int .i64 H, .string s] 25 := by rw [← hW]; exact Blk.new w _ _
  have hs0 : V.heap.size = w.heap.size + 1 := by rw [← hW]; simp
  have hb0 : Below w.heap.size w V := by rw [← hW]; exact (Below.refl _ _).alloc (Nat.le_refl _) _
  clear hW
  generalize hX : World.alloc V _ = X
  have A1 : Blk X w.heap.size #[.int .i64 W, .int .i64 H, .string s] 25 := by rw [← hX]; exact A0.alloc _
  have B1 : Blk X (w.heap.size + 1) #[.int .i64 W', .int .i64 H', .string q] 25 := by rw [← hX, ← hs0]; exact Blk.new V _ _
  have hs1 : X.heap.size = w.heap.size + 1 + 1 := by rw [← hX]; simp [hs0]
  have hb1 : Below w.heap.size w X := by rw [← hX]; exact hb0.alloc hb0.size _
  clear hX hb0 A0 hs0
  generalize hY : World.alloc X _ = Y
  have A2 : Blk Y w.heap.size #[.int .i64 W, .int .i64 H, .string s] 25 := by rw [← hY]; exact A1.alloc _
  have B2 : Blk Y (w.heap.size + 1) #[.int .i64 W', .int .i64 H', .string q] 25 := by rw [← hY]; exact B1.alloc _
  have E2 : Blk Y (w.heap.size + 1 + 1) #[.int .i64 0, .int .i64 0, .string ⟨#[]⟩] 25 := by rw [← hY, ← hs1]; exact Blk.new X _ _
  have hb2 : Below w.heap.size w Y := by rw [← hY]; exact hb1.alloc hb1.size _
  clear hY hb1 A1 B1 hs1
  have BK : Hid (∀ w', Below Y.heap.size Y w' → PairIn w' w.heap.size (w.heap.size + 1) W H s W' H' q) := fun w' h => ⟨(A2.below h A2.lt).three.1, (B2.below h B2.lt).three.1⟩
  have BR : Hid (∀ w', Below Y.heap.size Y w' → Blk w' (w.heap.size + 1 + 1) #[.int .i64 0, .int .i64 0, .string ⟨#[]⟩] 25) := fun w' h => E2.below h E2.lt
  have hlt := E2.lt
  clear A2 B2 E2
  refine (C2.out Y).mono ?_
  rintro e w1 ⟨rfl, hc1⟩
  obtain ⟨⟨x0, x1, x2⟩, y0, y1, y2⟩ := BK.out w1 hc1
  have K1 := BR.out w1 hc1
  have hb3 := hb2.trans (hc1.mono hb2.size)
  obtain ⟨⟨z0, z1, z2⟩, f0, f1, f2⟩ := K1.three
  cases b2 with
  | false =>
    have HVf : Hid (PV = .tuple #[picV W H s, .bool false]) := HV.out
    have KR := K1.pic (.int .i64 W) (.int .i64 H) (.string s)
    have hbr := below_pic hb3 (g := w.heap.size + 1 + 1) (by omega) (.int .i64 W) (.int .i64 H) (.string s)
    clear K1 hb3 hc1
    go_wp2
    (try simp only [Exit.inBlock, Exit.then])
    refine bodyPost_ret (results_cell_and rfl _ _ (w.heap.size + 1 + 1) 25 _ (0, 0) _ rfl KR Try.underlying25 rfl (by kernel_rfl)) rfl ?_
    exact ⟨by rw [HVf.out]; rfl, hbr⟩
  | true =>
    obtain ⟨q1, q2, q3⟩ := HQ.out rfl
    clear C2 HQ z0 z1 z2 f0 f1 f2 K1 hb3
    go_wp2_with fail
    refine (CW.out w1).mono ?_
    rintro e w2 ⟨rfl, hr⟩
    have hc2 := hc1.trans (hr.mono hc1.size)
    have hb3 := hb2.trans (hc2.mono hb2.size)
    clear hr hc1 x0 x1 x2 y0 y1 y2 CW
    obtain ⟨⟨x0, x1, x2⟩, y0, y1, y2⟩ := BK.out w2 hc2
    have K1 := BR.out w2 hc2
    obtain ⟨⟨z0, z1, z2⟩, f0, f1, f2⟩ := K1.three
    cases b1 with
    | false =>
      have HVf : Hid (PV = .tuple #[picV W H s, .bool false]) := HV.out
      have KR := K1.pic (.int .i64 W) (.int .i64 H) (.string s)
      have hbr := below_pic hb3 (g := w.heap.size + 1 + 1) (by omega) (.int .i64 W) (.int .i64 H) (.string s)
      clear K1 hb3 hc2 q3
      go_wp2
      (try simp only [Exit.inBlock, Exit.then])
      refine bodyPost_ret (results_cell_and rfl _ _ (w.heap.size + 1 + 1) 25 _ (0, 0) _ rfl KR Try.underlying25 rfl (by kernel_rfl)) rfl ?_
      exact ⟨by rw [HVf.out]; rfl, hbr⟩
    | true =>
      obtain ⟨⟨p1, p2, p3⟩, ⟨⟨s1, s2, s3⟩, s4, s5, s6⟩, HR⟩ := HP.out rfl
      have HRx : Hid (∀ k : Nat, (k : Int) < H' → (t + (k : Int)) * W + l = (rowA W l t k : Int) ∧ 0 ≤ (t + (k : Int)) * W ∧ (rowA W l t k : Int) + W' ≤ (s.size : Int)) := HR
      have HVt : Hid (PV = .tuple #[picV W H (pasteS W l t W' H' s q), .bool true]) := HV.out
      have m1 := sides_mul p1 p2
      have m2 := sides_mul q1 q2
      obtain ⟨cap0, w3, hcv, hown0, hgr0⟩ := bytes_mark w2 s (by unfold maxLen; omega)
      rw [cellsU_bytes] at hown0
      have hx1 := hc2.grown hgr0 hc2.size (fun j hj => by cases hj)
      have hsx := hc2.size
      obtain ⟨m, hm⟩ : ∃ m : Nat, W' = (m : Int) := ⟨W'.toNat, by omega⟩
      obtain ⟨n, hn⟩ : ∃ n : Nat, H' = (n : Int) := ⟨H'.toNat, by omega⟩
      subst hm hn
      have h65 : (s.size : Int) ≤ 65536 := by omega
      have g65 : (q.size : Int) ≤ 65536 := by omega
      have Q3 : Hid ((q.size : Int) = (m : Int) * (n : Int)) := q3
      have hcap : s.size ≤ cap0 := by
        obtain ⟨_, g', c', cur, fz, e', _, _, _, h5, _⟩ := hown0
        cases e'
        exact h5
      have HO0 : Hid (OwnM w3 w2.heap.size 5 (.slice (some ⟨w2.heap.size, 0, none⟩) s.size cap0) s.size (cellsU s.size (bAt s))) := hown0
      clear hown0 hgr0 HV HP HR p3 q3 m1 m2 K1 z0 z1 z2 f0 f1 f2 hb3
      go_wp2_with fail
      clear hcv
      go_loopw [11] (fun i wr => ∃ k : Nat, k ≤ n ∧ i = .int .i64 (k : Int) ∧ Hid (OwnM wr w2.heap.size 5 (.slice (some ⟨w2.heap.size, 0, none⟩) s.size cap0) s.size (cellsU s.size (pasteR W l t (m : Int) s q k))) ∧ Below Y.heap.size Y wr) (fun i _ => n - (intOf i).toNat)
      case atStart => exact ⟨0, Nat.zero_le _, rfl, HO0, hx1⟩
      case round =>
        obtain ⟨k, hk, rfl, HOk, hxr⟩ := hrel
        clear HO0 hx1 x0 x1 x2 y0 y1 y2
        have l0 : (0 : Int) ≤ (k : Int) := by omega
        by_cases hlt : k < n
        · have l1 : (k : Int) < (n : Int) := by omega
          obtain ⟨u1, u2, u3⟩ := HRx.out k l1
          have hkm : k * m + m ≤ q.size := by
            have q3 := Q3.out
            have e1 : (((k + 1) * m : Nat) : Int) ≤ ((n * m : Nat) : Int) := Int.ofNat_le.2 (Nat.mul_le_mul_right m hlt)
            have e2 : ((n * m : Nat) : Int) = (m : Int) * (n : Int) := by rw [Int.mul_comm]; simp
            have e3 : (k + 1) * m = k * m + m := by rw [Nat.add_mul, Nat.one_mul]
            omega
          have HS0 : Hid (pasteC W l t (m : Int) q (pasteR W l t (m : Int) s q k) k 0 = pasteR W l t (m : Int) s q k) := pasteC_zero _ _ _ _ _ _ _
          have HS1 : Hid (pasteC W l t (m : Int) q (pasteR W l t (m : Int) s q k) k m = pasteR W l t (m : Int) s q (k + 1)) := rfl
          have HSx : Hid (∀ x : Nat, (fun j => if j = rowA W l t k + x then bAt q (k * m + x) else pasteC W l t (m : Int) q (pasteR W l t (m : Int) s q k) k x j) = pasteC W l t (m : Int) q (pasteR W l t (m : Int) s q k) k (x + 1)) := fun x => pasteC_succ W l t (m : Int) q _ k x
          generalize pasteC W l t (m : Int) q (pasteR W l t (m : Int) s q k) k = PC at *
          have hAs : rowA W l t k + m ≤ s.size := by omega
          generalize rowA W l t k = A at *
          obtain ⟨z, hz⟩ : ∃ z : Int, (t + (k : Int)) * W = z := ⟨_, rfl⟩
          obtain ⟨y', hy'⟩ : ∃ y' : Int, t + (k : Int) = y' := ⟨_, rfl⟩
          have g1 : IntKind.i64.wrap (t + (k : Int)) = y' := by rw [hy']; exact IntWalk.i64_in _ ⟨by omega, by omega⟩
          rw [hz] at u1 u2
          rw [hy'] at hz
          have g2 : IntKind.i64.wrap (y' * W) = z := by rw [hz]; exact IntWalk.i64_in _ ⟨by omega, by omega⟩
          have g3 : IntKind.i64.wrap (z + l) = (A : Int) := by rw [u1]; exact IntWalk.i64_in _ ⟨by omega, by omega⟩
          have e1 : (k : Int) * (m : Int) = ((k * m : Nat) : Int) := by simp
          have g4 : IntKind.i64.wrap ((k : Int) * (m : Int)) = ((k * m : Nat) : Int) := by rw [e1]; exact IntWalk.i64_in _ ⟨by omega, by omega⟩
          generalize hK : k * m = K at *
          clear u1 u2 hz hy' e1 hK
          generalize wr = wh at *
          obtain ⟨⟨x0, x1, x2⟩, y0, y1, y2⟩ := BK.out wh hxr
          go_wp2_with fail
          go_loopw [12] (fun i wr => ∃ x : Nat, x ≤ m ∧ i = .int .i64 (x : Int) ∧ Hid (OwnM wr w2.heap.size 5 (.slice (some ⟨w2.heap.size, 0, none⟩) s.size cap0) s.size (cellsU s.size (PC x))) ∧ Below Y.heap.size Y wr) (fun i _ => m - (intOf i).toNat)
          case atStart => exact ⟨0, Nat.zero_le _, rfl, by rw [HS0.out]; exact HOk, hxr⟩
          case round =>
            obtain ⟨x, hx, rfl, HOx, hxw⟩ := hrel
            clear HOk hxr x0 x1 x2 y0 y1 y2
            obtain ⟨⟨x0, x1, x2⟩, y0, y1, y2⟩ := BK.out wr hxw
            have k0 : (0 : Int) ≤ (x : Int) := by omega
            by_cases hlx : x < m
            · have k1 : (x : Int) < (m : Int) := by omega
              obtain ⟨J, hJ⟩ : ∃ J : Nat, A + x = J := ⟨_, rfl⟩
              obtain ⟨I, hI⟩ : ∃ I : Nat, K + x = I := ⟨_, rfl⟩
              have g5 : IntKind.i64.wrap ((A : Int) + (x : Int)) = (J : Int) := by rw [← hJ]; exact IntWalk.i64_in _ ⟨by omega, by omega⟩
              have g6 : IntKind.i64.wrap ((K : Int) + (x : Int)) = (I : Int) := by rw [← hI]; exact IntWalk.i64_in _ ⟨by omega, by omega⟩
              have j1 : J < s.size := by omega
              have j2 : (J : Int) < (s.size : Int) := by omega
              have j3 : (0 : Int) ≤ (J : Int) := by omega
              have i1 : I < q.size := by omega
              have i2 : (I : Int) < (q.size : Int) := by omega
              have i3 : (0 : Int) ≤ (I : Int) := by omega
              have hb := bAt_eq q I i1
              have hb2 := bAt_in q I
              have HSy : Hid ((fun j => if j = J then bAt q I else PC x j) = PC (x + 1)) := by
                show _ = _
                rw [← hJ, ← hI]
                exact HSx.out x
              generalize bAt q I = b at *
              have hod := HOx.out
              have hce : wr.cell? ⟨w2.heap.size, J, none⟩ = some (.int .u8 (PC x J)) := by rw [hod.cellAt J j1, cellsU_get _ j1]
              have hfz := hod.frozenAt (j := J) j1
              have hst := hod.stored j1 (.int .u8 b)
              rw [cellsU_set, HSy.out] at hst
              have HST : Hid (OwnM (wr.setCell ⟨w2.heap.size, J, none⟩ (.int .u8 b)).drew w2.heap.size 5 (.slice (some ⟨w2.heap.size, 0, none⟩) s.size cap0) s.size (cellsU s.size (PC (x + 1)))) := hst.1.kept (grown_of_below (Below.refl _ _).drew none) (.inr rfl)
              have hxs : Below Y.heap.size Y (wr.setCell ⟨w2.heap.size, J, none⟩ (.int .u8 b)).drew := (hxw.setCell (p := ⟨w2.heap.size, J, none⟩) hsx _).drew
              have K0 := BK.out wr.drew hxw.drew
              have K1 := BK.out _ hxs
              clear hod hst HOx hJ hI
              go_wp2_with fail
              go_region_held3 (fun w' => (w'.cell? ⟨w.heap.size, 0, none⟩ = some (.int .i64 W) ∧ w'.cell? ⟨w.heap.size, 1, none⟩ = some (.int .i64 H) ∧ w'.cell? ⟨w.heap.size, 2, none⟩ = some (.string s)) ∧
                  (w'.cell? ⟨w.heap.size + 1, 0, none⟩ = some (.int .i64 (m : Int)) ∧ w'.cell? ⟨w.heap.size + 1, 1, none⟩ = some (.int .i64 (n : Int)) ∧ w'.cell? ⟨w.heap.size + 1, 2, none⟩ = some (.string q)))
                (first | with_reducible exact K0 | with_reducible exact K1)
                (fail)
              go_wp2
              go_roundw
              case rel => exact ⟨x + 1, by omega, by go_num, HST, hxs⟩
              case measure => simp [intOf]; omega
            · obtain rfl : x = m := by omega
              rw [HS1.out] at HOx
              go_wp2
              refine ⟨⟨k + 1, by omega, by go_num, HOx, hxw⟩, ?_⟩
              simp [intOf]; omega
        · obtain rfl : k = n := by omega
          have hconv0 : (convert 22 9 (.slice (some ⟨w2.heap.size, 0, none⟩) s.size cap0)).run Try.prog wr = .ok (.string (pasteS W l t (m : Int) (k : Int) s q)) wr := conv_mark HOk.out
          generalize pasteS W l t (m : Int) (k : Int) s q = Z at *
          obtain ⟨⟨x0, x1, x2⟩, y0, y1, y2⟩ := BK.out wr hxr
          have K6 := BR.out wr hxr
          obtain ⟨⟨z0, z1, z2⟩, f0, f1, f2⟩ := K6.three
          have hb7 := hb2.trans (hxr.mono hb2.size)
          have KR := K6.pic (.int .i64 W) (.int .i64 H) (.string Z)
          have hbr := below_pic hb7 (g := w.heap.size + 1 + 1) (by omega) (.int .i64 W) (.int .i64 H) (.string Z)
          clear K6 hb7 HOk
          go_wp2
          (try simp only [Exit.inBlock, Exit.then])
          refine bodyPost_ret (results_cell_and rfl _ _ (w.heap.size + 1 + 1) 25 _ (0, 0) _ rfl KR Try.underlying25 rfl (by kernel_rfl)) rfl ?_
          exact ⟨by rw [HVt.out]; rfl, hbr⟩
end Go.Proofs.Ytpodpfdbklffgaa
