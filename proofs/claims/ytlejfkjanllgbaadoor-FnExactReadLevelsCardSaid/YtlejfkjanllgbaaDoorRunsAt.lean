/-
  impl.runsAt.
-/
import Derived.Test.YtlejfkjanllgbaaDoorRunOne
import Derived.Test.YtlejfkjanllgbaaDoorRunBacks
namespace Go.Proofs.YtlejfkjanllgbaaDoor
open Go.RowKit
set_option linter.unusedVariables false
set_option maxRecDepth 20000

set_option maxHeartbeats 4000000 in
set_option maxRecDepth 20000 in
theorem implRunsAt {s : ByteArray} {F : Nat → Option (Int × Nat)} (hF : IsCnt s F) (hr : rowOkB s = true) (p n : Nat) (w : World) (hp : p ≤ s.size) (hn0 : 16 ≤ n) (hn1 : n ≤ 64) :
    Calls Tryd.prog 75 #[.string s, .int .i64 (p : Int), .int .i64 (n : Int)] w fun e w' => (∃ v, e = .returned (.tuple #[v, .int .i64 (ansE (readR F n p)), .bool (ansY (readR F n p))]) ∧ w'.ownsRow w.heap.size 3 1 v (ansL n (readR F n p)).length ((ansL n (readR F n p)).map (Value.int .i64))) ∧ Below w.heap.size w w' := by
  obtain ⟨i0, hi0, hz0, hz1, hz2⟩ := info_parts infoI
  have n0 : (16 : Int) ≤ (n : Int) := by omega
  have n1 : (n : Int) ≤ 64 := by omega
  obtain ⟨st, hst⟩ : ∃ st, readR F n p = st := ⟨_, rfl⟩
  rw [hst]
  cases h0 : F p with
  | none =>
    have hN : st = none := by rw [← hst]; exact readR_none h0
    subst hN
    have CU : Hid (∀ w', Calls Tryd.prog 96 #[.int .i64 0, .string s, .int .i64 (p : Int)] w' (fun e w'' => e = .returned (.tuple #[.int .i64 0, .int .i64 0, .bool false]) ∧ w'' = w')) := fun w' => implUeF_no hF hr w' hp h0
    clear hst h0 hF hr hp
    go_enter Tryd.func75, Tryd.ntmps75
    go_wp2_with (go_at_call 96; refine (CU.out _).mono ?_; rintro e w2 ⟨rfl, hw⟩; subst w2)
    go_ret3
    exact ⟨⟨_, rfl, own_none w (Nat.le_refl _)⟩, (Below.refl _ _).alloc (Nat.le_refl _) _⟩
  | some r =>
    obtain ⟨m, q⟩ := r
    obtain ⟨m0, m1, hq⟩ := hF.bd hr h0
    have CU : Hid (∀ w', Calls Tryd.prog 96 #[.int .i64 0, .string s, .int .i64 (p : Int)] w' (fun e w'' => e = .returned (.tuple #[.int .i64 m, .int .i64 (q : Int), .bool true]) ∧ w'' = w')) := fun w' => implUeF hF hr w' h0
    have hst' : iterR F n q m.toNat = st := by rw [← hst]; exact (readR_some h0).symm
    clear hst h0
    obtain ⟨M, rfl⟩ : ∃ M : Nat, m = (M : Int) := ⟨m.toNat, by omega⟩
    have HST : Hid (iterR F n q M = st) := by have := hst'; rwa [Int.toNat_natCast] at this
    have HF : Hid (IsCnt s F) := hF
    have HR : Hid (rowOkB s = true) := hr
    have HQ : Hid (q ≤ s.size) := hq
    clear hst' hF hr hp hq
    go_enter Tryd.func75, Tryd.ntmps75
    go_wp2_with (first
      | (at_make; refine wpList_make_full _ (by rfl) _ _ 24 (by rfl) w.heap.size 3 i0 (.int .i64 0) 1 Tryd.underlying24 hi0 hz0 hz1 .i64 .i64 _ _ n (by rfl) (by rfl) (by rfl) (by rfl) (by rw [hz2]; omega) (by unfold maxLen; omega) (Nat.le_refl _) ?_; intro w1 hown0 hgrow0; have hb0 : Below w.heap.size w w1 := (Below.refl _ _).grown hgrow0 (Nat.le_refl _) (fun j hj => by cases hj))
      | (go_at_call 96; refine (CU.out _).mono ?_; rintro e w2 ⟨rfl, hw⟩; subst w2))
    rw [none_made] at hown0
    clear hgrow0 CU
    go_loopw [1, 12, 29] (fun nx kk i wr => ∃ (j : Nat) (g : Nat → Int) (k p' : Nat), j ≤ M ∧ i = .int .i64 (j : Int) ∧ kk = .int .i64 (k : Int) ∧ nx = .int .i64 (p' : Int) ∧ Hid (iterR F n q j = some (g, k, p')) ∧ wr.ownsRow w.heap.size 3 1 (.slice (some ⟨w.heap.size, 0, none⟩) n n) n ((listF n g).map (Value.int .i64)) ∧ Below w.heap.size w wr) (fun _ _ i _ => M - (intOf i).toNat)
    case atStart => exact ⟨0, fun _ => 0, 0, q, Nat.zero_le _, rfl, rfl, rfl, rfl, hown0, hb0⟩
    case round =>
      obtain ⟨j, g, k, p', hj, rfl, rfl, rfl, HI, hown, hb⟩ := hrel
      clear hown0 hb0
      obtain ⟨b1, b2, b3⟩ := iterR_bd HF.out HR.out HQ.out j g k p' HI.out
      have k0 : (0 : Int) ≤ (k : Int) := by omega
      have k1 : (k : Int) ≤ (n : Int) := by omega
      have j0 : (0 : Int) ≤ (j : Int) := by omega
      by_cases hlt : j < M
      · have j1 : (j : Int) < (M : Int) := by omega
        have CR0 := runAt_any HF.out HR.out p' wr b3
        cases h1 : oneR F p' with
        | none =>
          have HN : Hid (st = none) := HST.out.symm.trans (iterR_stays (j := j + 1) (by show stepR F n (iterR F n q j) = none; rw [HI.out]; exact step_fault h1) M hlt)
          rw [h1] at CR0
          have CR : Hid (Calls Tryd.prog 97 #[.string s, .int .i64 (p' : Int)] wr (fun e w' => e = .returned (.tuple #[.agg #[.int .i64 0, .int .i64 0], .int .i64 0, .bool false]) ∧ Below wr.heap.size wr w')) := CR0
          clear h1 CR0
          go_wp2_with (go_at_call 97; refine CR.out.mono ?_; rintro e w2 ⟨rfl, hc2⟩)
          have hb2 := hb.trans (hc2.mono hb.size)
          have hb3 := hb2.alloc hb2.size (.cells #[.int .i64 0, .int .i64 0] 82)
          have HO : Hid (((w2.alloc (.cells #[.int .i64 0, .int .i64 0] 82)).alloc (.cells #[] 3)).ownsRow w.heap.size 3 1 (.slice (some ⟨w2.heap.size + 1, 0, none⟩) 0 0) 0 (([] : List Int).map (Value.int .i64))) := by
            have := own_none (w2.alloc (.cells #[.int .i64 0, .int .i64 0] 82)) hb3.size
            rw [World.size_alloc] at this
            exact this
          go_ret3
          rw [HN.out]
          exact ⟨⟨_, rfl, HO.out⟩, hb3.alloc hb3.size _⟩
        | some r1 =>
          obtain ⟨z, x, e1⟩ := r1
          obtain ⟨c1, c2, c3⟩ := oneR_end HF.out HR.out h1
          rw [h1] at CR0
          have CR : Hid (Calls Tryd.prog 97 #[.string s, .int .i64 (p' : Int)] wr (fun e w' => e = .returned (.tuple #[.agg #[.int .i64 (z : Int), .int .i64 x], .int .i64 (e1 : Int), .bool true]) ∧ Below wr.heap.size wr w')) := CR0
          have z0 : (0 : Int) ≤ (z : Int) := by omega
          have z1 : (z : Int) ≤ 1000000 := by omega
          obtain ⟨y, hy⟩ : ∃ y : Nat, k + z = y := ⟨_, rfl⟩
          have hyI : (k : Int) + (z : Int) = (y : Int) := by omega
          have y0 : (0 : Int) ≤ (y : Int) := by omega
          by_cases hfar : n ≤ k + z
          · have HN : Hid (st = none) := HST.out.symm.trans (iterR_stays (j := j + 1) (by show stepR F n (iterR F n q j) = none; rw [HI.out]; exact step_far h1 hfar) M hlt)
            have hfI : (n : Int) ≤ (y : Int) := by omega
            clear h1 CR0 hfar c3 hy
            go_wp2_with (go_at_call 97; refine CR.out.mono ?_; rintro e w2 ⟨rfl, hc2⟩)
            have hb2 := hb.trans (hc2.mono hb.size)
            have hb3 := hb2.alloc hb2.size (.cells #[.int .i64 (z : Int), .int .i64 x] 82)
            have HO : Hid (((w2.alloc (.cells #[.int .i64 (z : Int), .int .i64 x] 82)).alloc (.cells #[] 3)).ownsRow w.heap.size 3 1 (.slice (some ⟨w2.heap.size + 1, 0, none⟩) 0 0) 0 (([] : List Int).map (Value.int .i64))) := by
              have := own_none (w2.alloc (.cells #[.int .i64 (z : Int), .int .i64 x] 82)) hb3.size
              rw [World.size_alloc] at this
              exact this
            go_ret3
            rw [HN.out]
            exact ⟨⟨_, rfl, HO.out⟩, hb3.alloc hb3.size _⟩
          · have HI2 : Hid (iterR F n q (j + 1) = some (updF g y x, y + 1, e1)) := by
              show stepR F n (iterR F n q j) = _
              rw [HI.out, ← hy]
              exact step_on h1 hfar
            have yn : y < n := by omega
            have y1 : (y : Int) < (n : Int) := by omega
            have hd : ¬ n ≤ y := by omega
            clear h1 CR0 hfar c3 hy
            go_wp2_with fail
            refine CR.out.mono ?_
            rintro e w2 ⟨rfl, hc2⟩
            have hb2 := hb.trans (hc2.mono hb.size)
            have hown3 := (owned_below hown hc2).alloc (.cells #[.int .i64 (z : Int), .int .i64 x] 82)
            have hb3 := hb2.alloc hb2.size (.cells #[.int .i64 (z : Int), .int .i64 x] 82)
            have hlt2 : w.heap.size < w2.heap.size := by
              have h7 := (hown.lt w.heap.size rfl).2
              have h8 := hc2.size
              omega
            have hcc := hown3.cellAt y (by omega)
            have hc' : (w2.alloc (.cells #[.int .i64 (z : Int), .int .i64 x] 82)).cell? ⟨w.heap.size, y, none⟩ = some (.int .i64 (g y)) := by rw [hcc]; exact map_at _ yn
            have hc2' : w2.cell? ⟨w.heap.size, y, none⟩ = some (.int .i64 (g y)) := by
              rw [(owned_below hown hc2).cellAt y (by omega)]; exact map_at _ yn
            have hfz := hown3.frozenAt y
            have hfz2 := (owned_below hown hc2).frozenAt y
            have hst := (owned_below hown hc2).stored y (.int .i64 x)
            rw [upd_set] at hst
            have hos : Hid (((w2.setCell ⟨w.heap.size, y, none⟩ (.int .i64 x)).alloc (.cells #[.int .i64 (z : Int), .int .i64 x] 82)).ownsRow w.heap.size 3 1 (.slice (some ⟨w.heap.size, 0, none⟩) n n) n ((listF n (updF g y x)).map (Value.int .i64))) := hst.1.alloc _
            have hbx : Below w.heap.size w (w2.setCell ⟨w.heap.size, y, none⟩ (.int .i64 x)) := hb2.grown hst.2 hb2.size (fun j hj => by cases hj; exact Nat.le_refl _)
            have hbs : Hid (Below w.heap.size w ((w2.setCell ⟨w.heap.size, y, none⟩ (.int .i64 x)).alloc (.cells #[.int .i64 (z : Int), .int .i64 x] 82))) := hbx.alloc hbx.size _
            generalize g y = gy at *
            clear hst hcc hown hown3 hb3 hbx hb2 hc2 hb CR
            go_wp2
            go_roundw
            case rel => exact ⟨j + 1, _, y + 1, e1, by omega, by go_num, by go_num, rfl, HI2, hos.out, hbs.out⟩
            case measure => simp [intOf]; omega
      · obtain rfl : j = M := by omega
        have HN : Hid (st = some (g, k, p')) := HST.out.symm.trans HI.out
        go_wp2
        go_ret3
        rw [HN.out]
        exact ⟨⟨_, rfl, by show wr.ownsRow w.heap.size 3 1 _ (listF n g).length _; rw [listF_length]; exact hown⟩, hb⟩
end Go.Proofs.YtlejfkjanllgbaaDoor
