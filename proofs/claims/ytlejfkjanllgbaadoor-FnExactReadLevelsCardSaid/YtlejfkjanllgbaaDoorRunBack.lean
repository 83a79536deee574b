/-
  spec.l11Read, spec.ReadRuns.
-/
import Derived.Test.YtlejfkjanllgbaaDoorRunRd
import Derived.Test.YtlejfkjanllgbaaDoorIntAll
import Derived.Test.YtlejfkjanllgbaaDoorInKit
namespace Go.Proofs.YtlejfkjanllgbaaDoor
open Go.RowKit
set_option linter.unusedVariables false
set_option maxRecDepth 20000

set_option maxHeartbeats 4000000 in
set_option maxRecDepth 20000 in
theorem specL11Read {s : ByteArray} {F : Nat → Option (Int × Nat)} (hF : IsCnt s F) (hr : rowOkB s = true) (p n : Nat) (w : World) (hp : p ≤ s.size) (hn0 : 16 ≤ n) (hn1 : n ≤ 64) :
    Calls Tryd.prog 73 #[.string s, .int .i64 (p : Int), .int .i64 (n : Int)] w fun e w' => (∃ v, e = .returned (.tuple #[v, .int .i64 (ansE (readR F n p)), .bool (ansY (readR F n p))]) ∧ w'.ownsRow w.heap.size 3 1 v (ansL n (readR F n p)).length ((ansL n (readR F n p)).map (Value.int .i64))) ∧ Below w.heap.size w w' := by
  obtain ⟨i0, hi0, hz0, hz1, hz2⟩ := info_parts infoI
  have n0 : (16 : Int) ≤ (n : Int) := by omega
  have n1 : (n : Int) ≤ 64 := by omega
  obtain ⟨st, hst⟩ : ∃ st, readR F n p = st := ⟨_, rfl⟩
  rw [hst]
  cases h0 : F p with
  | none =>
    have hN : st = none := by rw [← hst]; exact readR_none h0
    subst hN
    have CU : Hid (∀ w', Calls Tryd.prog 94 #[.string s, .int .i64 (p : Int)] w' (fun e w'' => e = .returned (.tuple #[.int .i64 0, .int .i64 0, .bool false]) ∧ w'' = w')) := fun w' => specUeF_no hF hr w' hp h0
    clear hst h0 hF hr hp
    go_enter Tryd.func73, Tryd.ntmps73
    go_wp2_with (first
      | (at_make; refine wpList_make_full _ (by rfl) _ _ 24 (by rfl) w.heap.size 3 i0 (.int .i64 0) 1 Tryd.underlying24 hi0 hz0 hz1 .i64 .i64 _ _ n (by rfl) (by rfl) (by rfl) (by rfl) (by rw [hz2]; omega) (by unfold maxLen; omega) (Nat.le_refl _) ?_; intro w1 hown0 hgrow0; have hb0 : Below w.heap.size w w1 := (Below.refl _ _).grown hgrow0 (Nat.le_refl _) (fun j hj => by cases hj))
      | (go_at_call 94; refine (CU.out _).mono ?_; rintro e w2 ⟨rfl, hw⟩; subst w2))
    go_ret3
    exact ⟨⟨_, rfl, own_none w1 hb0.size⟩, hb0.alloc hb0.size _⟩
  | some r =>
    obtain ⟨m, q⟩ := r
    obtain ⟨m0, m1, hq⟩ := hF.bd hr h0
    have CU : Hid (∀ w', Calls Tryd.prog 94 #[.string s, .int .i64 (p : Int)] w' (fun e w'' => e = .returned (.tuple #[.int .i64 m, .int .i64 (q : Int), .bool true]) ∧ w'' = w')) := fun w' => specUeF hF hr w' h0
    have hst' : iterR F n q m.toNat = st := by rw [← hst]; exact (readR_some h0).symm
    clear hst h0
    by_cases hmn : (n : Int) < m
    · have hN : st = none := by rw [← hst']; exact iterR_over hF hr hq (by omega)
      subst hN
      clear hst' hF hr hp hq
      go_enter Tryd.func73, Tryd.ntmps73
      go_wp2_with (first
        | (at_make; refine wpList_make_full _ (by rfl) _ _ 24 (by rfl) w.heap.size 3 i0 (.int .i64 0) 1 Tryd.underlying24 hi0 hz0 hz1 .i64 .i64 _ _ n (by rfl) (by rfl) (by rfl) (by rfl) (by rw [hz2]; omega) (by unfold maxLen; omega) (Nat.le_refl _) ?_; intro w1 hown0 hgrow0; have hb0 : Below w.heap.size w w1 := (Below.refl _ _).grown hgrow0 (Nat.le_refl _) (fun j hj => by cases hj))
        | (go_at_call 94; refine (CU.out _).mono ?_; rintro e w2 ⟨rfl, hw⟩; subst w2))
      go_ret3
      exact ⟨⟨_, rfl, own_none w1 hb0.size⟩, hb0.alloc hb0.size _⟩
    · obtain ⟨M, rfl⟩ : ∃ M : Nat, m = (M : Int) := ⟨m.toNat, by omega⟩
      have hM : (M : Int) ≤ 64 := by omega
      have HST : Hid (iterR F n q M = st) := by have := hst'; rwa [Int.toNat_natCast] at this
      have HF : Hid (IsCnt s F) := hF
      have HR : Hid (rowOkB s = true) := hr
      have HQ : Hid (q ≤ s.size) := hq
      have hd : decide (n < M) = false := decide_eq_false (by omega)
      clear hst' hF hr hp hq m0 m1
      go_enter Tryd.func73, Tryd.ntmps73
      go_wp2_with (first
        | (at_make; refine wpList_make_full _ (by rfl) _ _ 24 (by rfl) w.heap.size 3 i0 (.int .i64 0) 1 Tryd.underlying24 hi0 hz0 hz1 .i64 .i64 _ _ n (by rfl) (by rfl) (by rfl) (by rfl) (by rw [hz2]; omega) (by unfold maxLen; omega) (Nat.le_refl _) ?_; intro w1 hown0 hgrow0; have hb0 : Below w.heap.size w w1 := (Below.refl _ _).grown hgrow0 (Nat.le_refl _) (fun j hj => by cases hj))
        | (go_at_call 94; refine (CU.out _).mono ?_; rintro e w2 ⟨rfl, hw⟩; subst w2))
      rw [none_made] at hown0
      clear hgrow0 CU
      go_loopw [11, 13, 14] (fun nx kk i wr => ∃ (j : Nat) (g : Nat → Int) (k p' : Nat), j ≤ M ∧ i = .int .i64 (j : Int) ∧ kk = .int .i64 (k : Int) ∧ nx = .int .i64 (p' : Int) ∧ Hid (iterR F n q j = some (g, k, p')) ∧ wr.ownsRow w.heap.size 3 1 (.slice (some ⟨w.heap.size, 0, none⟩) n n) n ((listF n g).map (Value.int .i64)) ∧ Below w.heap.size w wr) (fun _ _ i _ => M - (intOf i).toNat)
      case atStart => exact ⟨0, fun _ => 0, 0, q, Nat.zero_le _, rfl, rfl, rfl, rfl, hown0, hb0⟩
      case round =>
        obtain ⟨j, g, k, p', hj, rfl, rfl, rfl, HI, hown, hb⟩ := hrel
        clear hown0 hb0
        obtain ⟨b1, b2, b3⟩ := iterR_bd HF.out HR.out HQ.out j g k p' HI.out
        have k0 : (0 : Int) ≤ (k : Int) := by omega
        have k1 : (k : Int) ≤ (n : Int) := by omega
        have j0 : (0 : Int) ≤ (j : Int) := by omega
        by_cases hlt : j < M
        · have j1 : (j : Int) < (M : Int) := by omega
          cases h1 : F p' with
          | none =>
            have HN : Hid (st = none) := HST.out.symm.trans (iterR_stays (j := j + 1) (by show stepR F n (iterR F n q j) = none; rw [HI.out]; exact step_fault (oneR_none h1)) M hlt)
            have CU : Hid (∀ w', Calls Tryd.prog 94 #[.string s, .int .i64 (p' : Int)] w' (fun e w'' => e = .returned (.tuple #[.int .i64 0, .int .i64 0, .bool false]) ∧ w'' = w')) := fun w' => specUeF_no HF.out HR.out w' b3 h1
            clear h1
            go_wp2_with (go_at_call 94; refine (CU.out _).mono ?_; rintro e w2 ⟨rfl, hw⟩; subst w2)
            go_ret3
            rw [HN.out]
            exact ⟨⟨_, rfl, own_none wr hb.size⟩, hb.alloc hb.size _⟩
          | some r1 =>
            obtain ⟨z, q1⟩ := r1
            obtain ⟨z0, z1, hq1⟩ := HF.out.bd HR.out h1
            obtain ⟨Z, rfl⟩ : ∃ Z : Nat, z = (Z : Int) := ⟨z.toNat, by omega⟩
            have CU : Hid (∀ w', Calls Tryd.prog 94 #[.string s, .int .i64 (p' : Int)] w' (fun e w'' => e = .returned (.tuple #[.int .i64 (Z : Int), .int .i64 (q1 : Int), .bool true]) ∧ w'' = w')) := fun w' => specUeF HF.out HR.out w' h1
            by_cases hfar : (n : Int) - 1 - (k : Int) < (Z : Int)
            · have HN : Hid (st = none) := HST.out.symm.trans (iterR_stays (j := j + 1) (by show stepR F n (iterR F n q j) = none; rw [HI.out]; exact step_over h1 (by rw [Int.toNat_natCast]; omega)) M hlt)
              clear h1
              go_wp2_with (go_at_call 94; refine (CU.out _).mono ?_; rintro e w2 ⟨rfl, hw⟩; subst w2)
              go_ret3
              rw [HN.out]
              exact ⟨⟨_, rfl, own_none wr hb.size⟩, hb.alloc hb.size _⟩
            · cases h2 : F q1 with
              | none =>
                have HN : Hid (st = none) := HST.out.symm.trans (iterR_stays (j := j + 1) (by show stepR F n (iterR F n q j) = none; rw [HI.out]; exact step_fault (oneR_second h1 h2)) M hlt)
                have CS : Hid (∀ w', Calls Tryd.prog 95 #[.string s, .int .i64 (q1 : Int)] w' (fun e w'' => e = .returned (.tuple #[.int .i64 0, .int .i64 0, .bool false]) ∧ w'' = w')) := fun w' => specSeF_no HF.out HR.out w' hq1 h2
                clear h1 h2
                go_wp2_with (first
                  | (go_at_call 94; refine (CU.out _).mono ?_; rintro e w2 ⟨rfl, hw⟩; subst w2)
                  | (go_at_call 95; refine (CS.out _).mono ?_; rintro e w2 ⟨rfl, hw⟩; subst w2))
                go_ret3
                rw [HN.out]
                exact ⟨⟨_, rfl, own_none wr hb.size⟩, hb.alloc hb.size _⟩
              | some r2 =>
                obtain ⟨u, e2⟩ := r2
                obtain ⟨u0, u1, he2⟩ := HF.out.bd HR.out h2
                have CS0 : ∀ w', Calls Tryd.prog 95 #[.string s, .int .i64 (q1 : Int)] w' (fun e w'' => e = .returned (.tuple #[.int .i64 (seO u), .int .i64 (e2 : Int), .bool true]) ∧ w'' = w') := fun w' => specSeF HF.out HR.out w' h2
                obtain ⟨x, hx⟩ : ∃ x, seO u = x := ⟨_, rfl⟩
                have CI := in_any x (-5000) 5000
                cases hlv : levB x with
                | false =>
                  have HN : Hid (st = none) := HST.out.symm.trans (iterR_stays (j := j + 1) (by show stepR F n (iterR F n q j) = none; rw [HI.out]; exact step_fault (oneR_bad h1 h2 (by rw [hx]; exact hlv))) M hlt)
                  rw [hx] at CS0
                  have CS : Hid (∀ w', Calls Tryd.prog 95 #[.string s, .int .i64 (q1 : Int)] w' (fun e w'' => e = .returned (.tuple #[.int .i64 x, .int .i64 (e2 : Int), .bool true]) ∧ w'' = w')) := CS0
                  unfold levB at hlv
                  clear h1 h2 hx CS0 u0 u1
                  by_cases hx0 : x = 0
                  · subst hx0
                    clear CI hlv
                    go_wp2_with (first
                      | (go_at_call 94; refine (CU.out _).mono ?_; rintro e w2 ⟨rfl, hw⟩; subst w2)
                      | (go_at_call 95; refine (CS.out _).mono ?_; rintro e w2 ⟨rfl, hw⟩; subst w2))
                    go_ret3
                    rw [HN.out]
                    exact ⟨⟨_, rfl, own_none wr hb.size⟩, hb.alloc hb.size _⟩
                  · have e9 : (decide (-5000 ≤ x) && decide (x ≤ 5000)) = false := by
                      rw [decide_eq_false hx0, Bool.not_false, Bool.true_and] at hlv
                      exact hlv
                    rw [e9] at CI
                    have HC : Hid (∀ w', Calls Tryd.prog 47 #[.int .i64 x, .int .i64 (-5000), .int .i64 5000] w' (fun e w'' => e = .returned (.bool false) ∧ w'' = w')) := CI
                    clear CI hlv e9
                    go_wp2_with (first
                      | (go_at_call 94; refine (CU.out _).mono ?_; rintro e w2 ⟨rfl, hw⟩; subst w2)
                      | (go_at_call 95; refine (CS.out _).mono ?_; rintro e w2 ⟨rfl, hw⟩; subst w2)
                      | (go_at_call 47; refine (HC.out _).mono ?_; rintro e w2 ⟨rfl, hw⟩; subst w2))
                    go_ret3
                    rw [HN.out]
                    exact ⟨⟨_, rfl, own_none wr hb.size⟩, hb.alloc hb.size _⟩
                | true =>
                  have HI2 : Hid (iterR F n q (j + 1) = some (updF g (k + Z) x, k + Z + 1, e2)) := by
                    show stepR F n (iterR F n q j) = _
                    rw [HI.out]
                    have := oneR_some h1 h2 (by rw [hx]; exact hlv)
                    rw [hx, Int.toNat_natCast] at this
                    exact step_on this (by omega)
                  rw [hx] at CS0
                  have CS : Hid (∀ w', Calls Tryd.prog 95 #[.string s, .int .i64 (q1 : Int)] w' (fun e w'' => e = .returned (.tuple #[.int .i64 x, .int .i64 (e2 : Int), .bool true]) ∧ w'' = w')) := CS0
                  unfold levB at hlv
                  obtain ⟨y1, y2⟩ : (!decide (x = 0)) = true ∧ (decide (-5000 ≤ x) && decide (x ≤ 5000)) = true := by simpa using hlv
                  have hx0 : ¬ x = 0 := by simpa using y1
                  rw [y2] at CI
                  have HC : Hid (∀ w', Calls Tryd.prog 47 #[.int .i64 x, .int .i64 (-5000), .int .i64 5000] w' (fun e w'' => e = .returned (.bool true) ∧ w'' = w')) := CI
                  obtain ⟨y, hy⟩ : ∃ y : Nat, k + Z = y := ⟨_, rfl⟩
                  have hyI : (k : Int) + (Z : Int) = (y : Int) := by omega
                  rw [hy] at HI2
                  have yn : y < n := by omega
                  have yn0 : (0 : Int) ≤ (y : Int) := by omega
                  have yn1 : (y : Int) < (n : Int) := by omega
                  have hcc := hown.cellAt y (by omega)
                  have hc' : wr.cell? ⟨w.heap.size, y, none⟩ = some (.int .i64 (g y)) := by rw [hcc]; exact map_at _ yn
                  have hfz := hown.frozenAt y
                  have hst := hown.stored y (.int .i64 x)
                  rw [upd_set] at hst
                  have hos : Hid ((wr.setCell ⟨w.heap.size, y, none⟩ (.int .i64 x)).ownsRow w.heap.size 3 1 (.slice (some ⟨w.heap.size, 0, none⟩) n n) n ((listF n (updF g y x)).map (Value.int .i64))) := hst.1
                  have hbs : Hid (Below w.heap.size w (wr.setCell ⟨w.heap.size, y, none⟩ (.int .i64 x))) := hb.grown hst.2 hb.size (fun j hj => by cases hj; exact Nat.le_refl _)
                  generalize g y = gy at *
                  clear h1 h2 hx CS0 hlv y1 y2 CI hst hcc hown u0 u1 hy z0 z1 hfar
                  go_wp2_with (first
                    | (go_at_call 94; refine (CU.out _).mono ?_; rintro e w2 ⟨rfl, hw⟩; subst w2)
                    | (go_at_call 95; refine (CS.out _).mono ?_; rintro e w2 ⟨rfl, hw⟩; subst w2)
                    | (go_at_call 47; refine (HC.out _).mono ?_; rintro e w2 ⟨rfl, hw⟩; subst w2))
                  go_roundw
                  case rel => exact ⟨j + 1, _, y + 1, e2, by omega, by go_num, by go_num, rfl, HI2, hos.out, hbs.out⟩
                  case measure => simp [intOf]; omega
        · obtain rfl : j = M := by omega
          have HN : Hid (st = some (g, k, p')) := HST.out.symm.trans HI.out
          go_wp2
          go_ret3
          rw [HN.out]
          exact ⟨⟨_, rfl, by show wr.ownsRow w.heap.size 3 1 _ (listF n g).length _; rw [listF_length]; exact hown⟩, hb⟩
end Go.Proofs.YtlejfkjanllgbaaDoor
