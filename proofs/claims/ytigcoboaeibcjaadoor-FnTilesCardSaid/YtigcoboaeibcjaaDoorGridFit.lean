/-
  The strip that has a dot: the walks of impl's strip.has, stripWith's closure, leastFit over strips, stripWith.
-/
import Derived.Test.YtigcoboaeibcjaaDoorGridGet
import Derived.Test.YtigcoboaeibcjaaDoorGridVal
import Derived.Deep.CutRange
namespace Go.Proofs.YtigcoboaeibcjaaDoor
open Go.RowKit
set_option linter.unusedVariables false
set_option maxRecDepth 20000

set_option maxHeartbeats 800000 in
theorem has_any (n f s d : Int) (w : World) (h0 : 0 ≤ f) (h1 : f ≤ 1000) (h2 : 0 ≤ s) (h3 : s ≤ 1000) :
    Calls Tryd.prog 60 #[.agg #[.int .i64 n, .int .i64 f, .int .i64 s], .int .i64 d] w fun e w' => e = .returned (.bool (decide (f ≤ d) && decide (d < f + s))) ∧ Below w.heap.size w w' := by
  by_cases c : f ≤ d
  · go_enter Tryd.func60, Tryd.ntmps60
    go_wp2_with (go_at_call 57; refine (behind_any _ _ _ _ (by omega) (by omega) (by omega) (by omega)).mono ?_; rintro e w5 ⟨rfl, hc5⟩)
    go_ret
    exact ⟨by rw [show decide (f ≤ d) = true by simpa using c]; rfl, (show Below w.heap.size w _ by go_grown).trans (hc5.mono (by simp))⟩
  · go_enter Tryd.func60, Tryd.ntmps60
    go_wp2_with (go_at_call 57; refine (behind_any _ _ _ _ (by omega) (by omega) (by omega) (by omega)).mono ?_; rintro e w5 ⟨rfl, hc5⟩)
    go_ret
    exact ⟨by rw [show decide (f ≤ d) = false by simpa using c]; rfl, by go_grown⟩

set_option maxHeartbeats 800000 in
theorem fits_any (n f s d : Int) (B : Nat) (w : World) (hB : Blk w B #[.int .i64 d] 3) (h0 : 0 ≤ f) (h1 : f ≤ 1000) (h2 : 0 ≤ s) (h3 : s ≤ 1000) :
    Calls Tryd.prog 59 #[.agg #[.int .i64 n, .int .i64 f, .int .i64 s], .pointer (some ⟨B, 0, none⟩)] w fun e w' => e = .returned (.bool (decide (f ≤ d) && decide (d < f + s))) ∧ Below w.heap.size w w' := by
  have b1 := (hB.alloc (.cells #[.int .i64 n, .int .i64 f, .int .i64 s] 73)).cell 0
  have b0 := hB.cell 0
  simp only [List.getElem?_toArray, List.getElem?_cons_zero] at b0 b1
  go_enter Tryd.func59, Tryd.ntmps59
  go_wp2_with (go_at_call 60; refine (has_any _ _ _ _ _ (by omega) (by omega) (by omega) (by omega)).mono ?_; rintro e w5 ⟨rfl, hc5⟩)
  go_ret
  exact ⟨rfl, (show Below w.heap.size w _ by go_grown).trans (hc5.mono (by simp))⟩

set_option maxHeartbeats 1600000 in
theorem leastFit_any (xs : List Int) (n g cp B : Nat) (d : Int) (w : World) (hB : Blk w B #[.int .i64 d] 3) (hn : (n : Int) ≤ 4) (hs : ∀ i, i < n → (0 ≤ 8 * sumT xs i ∧ 8 * sumT xs i ≤ 1000) ∧ 0 ≤ 8 * xs.getD i 0 ∧ 8 * xs.getD i 0 ≤ 1000)
    (hc : ∀ w' i, Below w.heap.size w w' → i < n → w'.cell? ⟨g, i * 3, none⟩ = some (.int .i64 (i : Int)) ∧ w'.cell? ⟨g, i * 3 + 1, none⟩ = some (.int .i64 (8 * sumT xs i)) ∧ w'.cell? ⟨g, i * 3 + 2, none⟩ = some (.int .i64 (8 * xs.getD i 0))) :
    Calls Tryd.prog 58 #[.slice (some ⟨g, 0, none⟩) n cp, .func (Fn.func 59) #[] #[.pointer (some ⟨B, 0, none⟩)]] w fun e w' => ((∃ i, i < n ∧ inS xs i d = true ∧ e = .returned (.tuple #[.agg #[.int .i64 (i : Int), .int .i64 (8 * sumT xs i), .int .i64 (8 * xs.getD i 0)], .bool true])) ∨ ((∀ i, i < n → inS xs i d = false) ∧ e = .returned (.tuple #[.agg #[.int .i64 0, .int .i64 0, .int .i64 0], .bool false]))) ∧ Below w.heap.size w w' := by
  have HC : Hid (∀ w' i, Below w.heap.size w w' → i < n → w'.cell? ⟨g, i * 3, none⟩ = some (.int .i64 (i : Int)) ∧ w'.cell? ⟨g, i * 3 + 1, none⟩ = some (.int .i64 (8 * sumT xs i)) ∧ w'.cell? ⟨g, i * 3 + 2, none⟩ = some (.int .i64 (8 * xs.getD i 0))) := hc
  have HS : Hid (∀ i, i < n → (0 ≤ 8 * sumT xs i ∧ 8 * sumT xs i ≤ 1000) ∧ 0 ≤ 8 * xs.getD i 0 ∧ 8 * xs.getD i 0 ≤ 1000) := hs
  have HB : Hid (∀ w', Below w.heap.size w w' → Blk w' B #[.int .i64 d] 3) := fun w' hb => hB.below hb hB.lt
  clear hc hs hB
  go_enter Tryd.func58, Tryd.ntmps58
  go_wp2
  have R0 := Blk.new w #[.int .i64 0, .int .i64 0, .int .i64 0] 73
  have hb0 : Below w.heap.size w (w.alloc (.cells #[.int .i64 0, .int .i64 0, .int .i64 0] 73)) := (Below.refl _ _).alloc (Nat.le_refl _) _
  go_loopw [11] (fun i wr => ∃ k : Nat, k ≤ n ∧ i = .int .i64 k ∧ Hid (∀ i, i < k → inS xs i d = false) ∧ Blk wr w.heap.size #[.int .i64 0, .int .i64 0, .int .i64 0] 73 ∧ Below w.heap.size w wr)
    (fun i _ => n - (intOf i).toNat)
  case atStart => exact ⟨0, Nat.zero_le _, rfl, fun i hi => by omega, R0, hb0⟩
  case round =>
    obtain ⟨k, hk, rfl, HN, R, hb⟩ := hrel
    clear R0 hb0
    by_cases hlt : k < n
    · obtain ⟨c0, c1, c2⟩ := HC.out wr k hb hlt
      obtain ⟨⟨s0, s1⟩, s2, s3⟩ := HS.out k hlt
      have HE : Hid (inS xs k d = (decide (8 * sumT xs k ≤ d) && decide (d < 8 * sumT xs k + 8 * xs.getD k 0))) := rfl
      have HP : Hid (∀ (e : Ending), inS xs k d = true → e = .returned (.tuple #[.agg #[.int .i64 (k : Int), .int .i64 (8 * sumT xs k), .int .i64 (8 * xs.getD k 0)], .bool true]) → ∃ i, i < n ∧ inS xs i d = true ∧ e = .returned (.tuple #[.agg #[.int .i64 (i : Int), .int .i64 (8 * sumT xs i), .int .i64 (8 * xs.getD i 0)], .bool true])) := fun e h1 h2 => ⟨k, hlt, h1, h2⟩
      have l0 : (0 : Int) ≤ (k : Int) := by omega
      have l1 : (k : Int) < (n : Int) := by omega
      generalize 8 * sumT xs k = F at *
      generalize 8 * xs.getD k 0 = Y at *
      have hbA := hb.alloc hb.size (.cells #[.int .i64 (k : Int), .int .i64 F, .int .i64 Y] 73)
      have OA := Blk.new wr #[.int .i64 (k : Int), .int .i64 F, .int .i64 Y] 73
      have RA := R.alloc (.cells #[.int .i64 (k : Int), .int .i64 F, .int .i64 Y] 73)
      have HA : Hid (Blk (wr.alloc (.cells #[.int .i64 (k : Int), .int .i64 F, .int .i64 Y] 73)) wr.heap.size #[.int .i64 (k : Int), .int .i64 F, .int .i64 Y] 73 ∧ Blk (wr.alloc (.cells #[.int .i64 (k : Int), .int .i64 F, .int .i64 Y] 73)) w.heap.size #[.int .i64 0, .int .i64 0, .int .i64 0] 73 ∧ Below w.heap.size w (wr.alloc (.cells #[.int .i64 (k : Int), .int .i64 F, .int .i64 Y] 73))) := ⟨OA, RA, hbA⟩
      clear OA RA hbA R hb
      cases hin : (decide (F ≤ d) && decide (d < F + Y)) with
      | true =>
        go_wp2_with (go_at_call 59; refine (fits_any _ _ _ d _ _ (HB.out _ HA.out.2.2) (by omega) (by omega) (by omega) (by omega)).mono ?_; rw [hin]; rintro e w5 ⟨rfl, hc5⟩; obtain ⟨⟨o0, o1, o2⟩, _⟩ := (HA.out.1.below hc5 HA.out.1.lt).three; have R5 := HA.out.2.1.below hc5 HA.out.2.1.lt; obtain ⟨⟨r0, r1, r2⟩, f0, f1, f2⟩ := R5.three)
        have HZ : Hid (Blk ((((w5).setCell ⟨w.heap.size, 0, none⟩ (.int .i64 (k : Int))).setCell ⟨w.heap.size, 1, none⟩ (.int .i64 F)).setCell ⟨w.heap.size, 2, none⟩ (.int .i64 Y)) w.heap.size #[.int .i64 (k : Int), .int .i64 F, .int .i64 Y] 73) := ((R5.set 0 _ (by simp)).set 1 _ (by simp)).set 2 _ (by simp)
        have hb5 := HA.out.2.2.trans (hc5.mono HA.out.2.2.size)
        (try simp only [Exit.inBlock, Exit.then])
        refine bodyPost_ret (results_cell_one rfl _ _ w.heap.size 73 _ (0, 0) _ rfl HZ.out Tryd.underlying73 rfl (by kernel_rfl)) rfl ?_
        exact ⟨.inl (HP.out _ (by rw [HE.out, hin]) rfl), by go_grown⟩
      | false =>
        go_wp2_with (go_at_call 59; refine (fits_any _ _ _ d _ _ (HB.out _ HA.out.2.2) (by omega) (by omega) (by omega) (by omega)).mono ?_; rw [hin]; rintro e w5 ⟨rfl, hc5⟩)
        have R5 := HA.out.2.1.below hc5 HA.out.2.1.lt
        have hb5 := HA.out.2.2.trans (hc5.mono HA.out.2.2.size)
        go_roundw
        case rel => exact ⟨k + 1, by omega, by go_num, fun i hi => by
          rcases Nat.lt_succ_iff_lt_or_eq.1 hi with h | rfl
          · exact HN.out i h
          · rw [HE.out, hin], R5, hb5⟩
        case measure => simp [intOf]; omega
    · obtain rfl : k = n := by omega
      have RA := R.alloc (.cells #[.int .i64 0, .int .i64 0, .int .i64 0] 73)
      obtain ⟨⟨r0, r1, r2⟩, f0, f1, f2⟩ := RA.three
      have HZ : Hid (Blk ((((wr.alloc (.cells #[.int .i64 0, .int .i64 0, .int .i64 0] 73)).setCell ⟨w.heap.size, 0, none⟩ (.int .i64 0)).setCell ⟨w.heap.size, 1, none⟩ (.int .i64 0)).setCell ⟨w.heap.size, 2, none⟩ (.int .i64 0)) w.heap.size #[.int .i64 0, .int .i64 0, .int .i64 0] 73) := ((RA.set 0 _ (by simp)).set 1 _ (by simp)).set 2 _ (by simp)
      clear RA R
      have hsz := hb.size
      go_wp2
      (try simp only [Exit.inBlock, Exit.then])
      refine bodyPost_ret (results_cell_one rfl _ _ w.heap.size 73 _ (0, 0) _ rfl HZ.out Tryd.underlying73 rfl (by kernel_rfl)) rfl ?_
      exact ⟨.inr ⟨HN.out, rfl⟩, by go_grown⟩

set_option maxHeartbeats 800000 in
theorem stripWith_any (a : Option Addr) (cap : Nat) (xs : List Int) (d : Int) (w : World) (ht : Ints w a xs) (hg : goodT xs xs.length) (hl : xs.length ≤ 4) (hn : 1 ≤ xs.length) :
    Calls Tryd.prog 47 #[.slice a xs.length cap, .int .i64 d] w fun e w' => ((∃ i, i < xs.length ∧ inS xs i d = true ∧ e = .returned (.tuple #[.agg #[.int .i64 (i : Int), .int .i64 (8 * sumT xs i), .int .i64 (8 * xs.getD i 0)], .bool true])) ∨ ((∀ i, i < xs.length → inS xs i d = false) ∧ e = .returned (.tuple #[.agg #[.int .i64 0, .int .i64 0, .int .i64 0], .bool false]))) ∧ Below w.heap.size w w' := by
  have HT : Hid (Ints w a xs) := ht
  have HG : Hid (goodT xs xs.length) := hg
  have hS : ∀ i, i < xs.length → (0 ≤ 8 * sumT xs i ∧ 8 * sumT xs i ≤ 1000) ∧ 0 ≤ 8 * xs.getD i 0 ∧ 8 * xs.getD i 0 ≤ 1000 := fun i hi => by
    obtain ⟨p, q⟩ := sumT_bd xs i (by omega) (fun j hj => hg j (by omega))
    obtain ⟨r, s⟩ := hg i hi
    omega
  have HS : Hid (∀ i, i < xs.length → (0 ≤ 8 * sumT xs i ∧ 8 * sumT xs i ≤ 1000) ∧ 0 ≤ 8 * xs.getD i 0 ∧ 8 * xs.getD i 0 ≤ 1000) := hS
  have hmf : ∀ (fn : Fn) (first cap : Array Value) (w : World), (Instr.makeFunc fn first cap).run Tryd.prog w = .ok (.func fn first cap) w := fun _ _ _ _ => rfl
  clear ht hg hS
  go_enter Tryd.func47, Tryd.ntmps47
  go_wp2_with fail
  generalize hW : World.alloc (World.alloc w _) _ = W
  have B0 : Blk W w.heap.size #[.int .i64 d] 3 := by rw [← hW]; exact (Blk.new w _ _).alloc _
  have R0 : Blk W (w.heap.size + 1) #[.int .i64 0, .int .i64 0, .int .i64 0] 73 := by rw [← hW]; exact Blk.new' _ _ (by simp)
  have hb0 : Below w.heap.size w W := by rw [← hW]; exact ((Below.refl _ _).alloc (Nat.le_refl _) _).alloc (by simp) _
  clear hW
  refine (stripsOf_any _ _ _ W (HT.out.below hb0 (Nat.le_refl _)) HG.out hl).mono ?_
  rintro e w1 ⟨v, rfl, hown, hc⟩
  obtain ⟨g, cp, rfl, g0, g1, hcell⟩ := strip_at hown (by omega)
  have HC : Hid (∀ w' i, Below w1.heap.size w1 w' → i < xs.length → w'.cell? ⟨g, i * 3, none⟩ = some (.int .i64 (i : Int)) ∧ w'.cell? ⟨g, i * 3 + 1, none⟩ = some (.int .i64 (8 * sumT xs i)) ∧ w'.cell? ⟨g, i * 3 + 2, none⟩ = some (.int .i64 (8 * xs.getD i 0))) := hcell
  have hb1 := hb0.trans (hc.mono hb0.size)
  have B1 := B0.below hc B0.lt
  have R1 := R0.below hc R0.lt
  clear hcell hown hc B0 R0 hb0 g0 g1
  go_wp2_with fail
  refine (leastFit_any xs xs.length g cp _ d w1 B1 (by omega) HS.out HC.out).mono ?_
  rintro e w2 ⟨⟨i, hi, hin, rfl⟩ | ⟨hno, rfl⟩, hc2⟩
  · have HP : Hid (∀ (e : Ending), e = .returned (.tuple #[.agg #[.int .i64 (i : Int), .int .i64 (8 * sumT xs i), .int .i64 (8 * xs.getD i 0)], .bool true]) → ∃ i, i < xs.length ∧ inS xs i d = true ∧ e = .returned (.tuple #[.agg #[.int .i64 (i : Int), .int .i64 (8 * sumT xs i), .int .i64 (8 * xs.getD i 0)], .bool true])) := fun e h => ⟨i, hi, hin, h⟩
    generalize 8 * sumT xs i = F at *
    generalize 8 * xs.getD i 0 = Y at *
    have R2 := R1.below hc2 R1.lt
    have hb2 := hb1.trans (hc2.mono hb1.size)
    have hsz := hb2.size
    obtain ⟨⟨r0, r1, r2⟩, f0, f1, f2⟩ := R2.three
    have HZ : Hid (Blk ((((w2).setCell ⟨w.heap.size + 1, 0, none⟩ (.int .i64 (i : Int))).setCell ⟨w.heap.size + 1, 1, none⟩ (.int .i64 F)).setCell ⟨w.heap.size + 1, 2, none⟩ (.int .i64 Y)) (w.heap.size + 1) #[.int .i64 (i : Int), .int .i64 F, .int .i64 Y] 73) := ((R2.set 0 _ (by simp)).set 1 _ (by simp)).set 2 _ (by simp)
    clear R2 R1 B1 hb1 hc2 HC
    go_wp2
    (try simp only [Exit.inBlock, Exit.then])
    refine bodyPost_ret (results_cell_one rfl _ _ (w.heap.size + 1) 73 _ (0, 0) _ rfl HZ.out Tryd.underlying73 rfl (by kernel_rfl)) rfl ?_
    exact ⟨.inl (HP.out _ rfl), by go_grown⟩
  · have HN : Hid (∀ i, i < xs.length → inS xs i d = false) := hno
    clear hno
    have R2 := R1.below hc2 R1.lt
    have hb2 := hb1.trans (hc2.mono hb1.size)
    have hsz := hb2.size
    obtain ⟨⟨r0, r1, r2⟩, f0, f1, f2⟩ := R2.three
    have HZ : Hid (Blk ((((w2).setCell ⟨w.heap.size + 1, 0, none⟩ (.int .i64 0)).setCell ⟨w.heap.size + 1, 1, none⟩ (.int .i64 0)).setCell ⟨w.heap.size + 1, 2, none⟩ (.int .i64 0)) (w.heap.size + 1) #[.int .i64 0, .int .i64 0, .int .i64 0] 73) := ((R2.set 0 _ (by simp)).set 1 _ (by simp)).set 2 _ (by simp)
    clear R2 R1 B1 hb1 hc2 HC
    go_wp2
    (try simp only [Exit.inBlock, Exit.then])
    refine bodyPost_ret (results_cell_one rfl _ _ (w.heap.size + 1) 73 _ (0, 0) _ rfl HZ.out Tryd.underlying73 rfl (by kernel_rfl)) rfl ?_
    exact ⟨.inr ⟨HN.out, rfl⟩, by go_grown⟩
end Go.Proofs.YtigcoboaeibcjaaDoor
