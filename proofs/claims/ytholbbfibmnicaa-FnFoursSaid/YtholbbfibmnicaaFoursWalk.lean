/-
  The walk of laws.FnFours: turns of four of drawn numbers go with sums; the first one is the sum of all; of one number alone all sixteen come back.
-/
import Derived.Test.YtholbbfibmnicaaCodeKit
import Derived.Test.YtholbbfibmnicaaDrawPlaces
import Derived.Test.YtholbbfibmnicaaDrawDiffs
import Derived.Test.YtholbbfibmnicaaMoreByte
import Derived.Test.YtholbbfibmnicaaFoursMath
import Derived.Test.YtholbbfibmnicaaOwnCap
import Derived.BigQuiet
namespace Go.Proofs.Ytholbbfibmnicaa
open Go.RowKit
set_option linter.unusedVariables false
set_option maxRecDepth 20000

theorem CodeRow.mono {w : World} {B B' : Nat} {a : Option Addr} {len : Nat} (h : CodeRow w B a len) (hB : B ≤ B') : CodeRow w B' a len := by
  refine ⟨h.1, ?_⟩
  rcases h.2 with h0 | ⟨b, off, ha, hlt, hc⟩
  · exact .inl h0
  · exact .inr ⟨b, off, ha, Nat.lt_of_lt_of_le hlt hB, hc⟩
/-- The numbers of a row that lies at the head of a block. -/
def Head (w : World) (g n : Nat) (f : Nat → Int) : Prop := ∀ i, i < n → w.cell? ⟨g, i, none⟩ = some (.int .i64 (f i))
theorem head_of {w : World} {B g n c : Nat} {f : Nat → Int} (h : w.ownsRow B 3 1 (.slice (some ⟨g, 0, none⟩) n c) n ((listF n f).map (Value.int .i64))) : ∀ w', Below w.heap.size w w' → Head w' g n f := fun w' hb i hi => by
  rw [hb.cell (p := ⟨g, i, none⟩) (h.lt g rfl).2, h.cellAt i (by omega), map_at f hi]
theorem ints_of_head {w : World} {g n : Nat} {f : Nat → Int} (h : Head w g n f) (hg : g < w.heap.size) : Ints w (some ⟨g, 0, none⟩) (listF n f) :=
  .inr ⟨g, 0, rfl, hg, fun i hi => by
    rw [listF_length] at hi
    rw [Nat.zero_add, listF_get f hi]
    exact h i hi⟩

theorem alone_set (v : Int) : ((List.range 16).map (fun _ => Value.int .i64 0)).set 0 (.int .i64 v) = (listF 16 (fun i => if i = 0 then v else 0)).map (Value.int .i64) := rfl

set_option maxHeartbeats 3200000 in
theorem fnFours_walk (a : Option Addr) (len cap : Nat) (w : World) (hc : CodeIn w a len cap) :
    Calls Try.prog 3 #[.slice a len cap] w fun e w' => e = .returned (.bool true) ∧ Below w.heap.size w w' := by
  obtain ⟨i0, hi0, hz0, hz1, hz2⟩ := info_parts infoD
  have HCI : Hid (CodeIn w a len cap) := hc
  have hlen : (len : Int) ≤ 1048576 := hc.1
  clear hc
  go_enter Try.func3, Try.ntmps3
  go_wp2_with fail
  refine (big_any a len cap w hlen).mono ?_
  rintro e w0 ⟨rfl, hw⟩
  subst w0
  go_wp2_with fail
  refine (drawPlaces_any a len cap w.heap.size w HCI.out.2.2 (Nat.le_refl _)).mono ?_
  rintro e w1 ⟨gp, cp, lp, rfl, hlp, hxp, hown, hb1⟩
  have d0 := cellI hown hlp 0 (by omega)
  obtain ⟨p0, p1⟩ := getD_in hlp (show 0 < 12 by omega) hxp
  have hgp := (hown.lt gp rfl).2
  generalize lp.getD 0 0 = p at *
  have HP : Hid (∀ w', Below w1.heap.size w1 w' → w'.cell? ⟨gp, 0, none⟩ = some (.int .i64 p)) := fun w' hb => (hb.cell (p := ⟨gp, 0, none⟩) hgp).trans d0
  clear hown hxp hlp d0 hgp
  -- the first sixteen
  go_wp2_with fail
  refine (drawDiffs_any a len cap w.heap.size 16 500 w1 (HCI.out.2.2.below hb1) hb1.size (by omega) (by omega) (by omega)).mono ?_
  rintro e w2 ⟨gx, cx, l, rfl, hl, hx, hown, hc2⟩
  have hb2 := hb1.trans (hc2.mono hb1.size)
  obtain ⟨x, hxl⟩ : ∃ x : Nat → Int, (fun i => l.getD i 0) = x := ⟨_, rfl⟩
  have el : l = listF 16 x := by
    have := listF_self l
    rw [hl, hxl] at this
    exact this.symm
  have XB : Hid (∀ i, i < 16 → -500 ≤ x i ∧ x i ≤ 500) := fun i hi => by
    have := inB_iff.1 (inB_ofF hx) i (by omega)
    rw [← hxl]
    exact this
  rw [el] at hown
  have HX : Hid (∀ w', Below w2.heap.size w2 w' → Head w' gx 16 x) := head_of hown
  have hgx := (hown.lt gx rfl).2
  have HPx : Hid (∀ w', Below w2.heap.size w2 w' → w'.cell? ⟨gp, 0, none⟩ = some (.int .i64 p)) := fun w' hb => HP.out w' (hc2.trans (hb.mono hc2.size))
  clear hown el hxl hx hl hc2 hb1 HP
  -- the other sixteen, of a code of one byte more
  have HC2 : CodeIn w2 a len cap := ⟨hlen, HCI.out.2.1, (HCI.out.2.2.below hb2).mono hb2.size⟩
  obtain ⟨gg, cg, w3, happ, hcr3, hc3⟩ := more_byte 3 (by omega) (by omega) w2 w2 a len cap HC2 (Below.refl _ _)
  have HC3 : Hid (CodeRow w3 w3.heap.size (some ⟨gg, 0, none⟩) (len + 1)) := hcr3
  clear hcr3 HC2 HCI
  go_wp2_with (at_builtin; refine wpList_append_knownM (by rfl) _ _ _ _ (by rfl) _ _ _ _ (by rfl) (by rfl) happ ?_)
  refine (drawDiffs_any (some ⟨gg, 0, none⟩) (len + 1) cg w3.heap.size 16 500 w3 HC3.out (Nat.le_refl _) (by omega) (by omega) (by omega)).mono ?_
  rintro e w4 ⟨gy, cy, m, rfl, hl, hx, hown, hc4⟩
  have hd4 := hc3.trans (hc4.mono hc3.size)
  have hb4 := hb2.trans (hd4.mono hb2.size)
  obtain ⟨y, hyl⟩ : ∃ y : Nat → Int, (fun i => m.getD i 0) = y := ⟨_, rfl⟩
  have el : m = listF 16 y := by
    have := listF_self m
    rw [hl, hyl] at this
    exact this.symm
  have YB : Hid (∀ i, i < 16 → -500 ≤ y i ∧ y i ≤ 500) := fun i hi => by
    have := inB_iff.1 (inB_ofF hx) i (by omega)
    rw [← hyl]
    exact this
  rw [el] at hown
  have HY : Hid (∀ w', Below w4.heap.size w4 w' → Head w' gy 16 y) := head_of hown
  have hgy := (hown.lt gy rfl).2
  have HX4 : Hid (∀ w', Below w4.heap.size w4 w' → Head w' gx 16 x) := fun w' hb => HX.out w' (hd4.trans (hb.mono hd4.size))
  have HP4 : Hid (∀ w', Below w4.heap.size w4 w' → w'.cell? ⟨gp, 0, none⟩ = some (.int .i64 p)) := fun w' hb => HPx.out w' (hd4.trans (hb.mono hd4.size))
  have hgx4 : gx < w4.heap.size := Nat.lt_of_lt_of_le hgx hd4.size
  clear hown el hyl hx hl hc4 hd4 hc3 hb2 HPx HX HC3 happ hgx hlen
  -- their sums
  have hs4 := hb4.size
  go_wp2_with fail
  generalize hz4 : w4.heap.size = z at *
  go_loopw [6, 7, 8] (fun v s i wr => ∃ k : Nat, k ≤ 16 ∧ i = .int .i64 (k : Int) ∧ s = .int .i64 (sumTo x k) ∧ wr.ownsRow z 3 1 v k ((listF k (fun i => x i + y i)).map (Value.int .i64)) ∧ Below z w4 wr) (fun _ _ i _ => 16 - (intOf i).toNat)
  case atStart => exact ⟨0, by omega, rfl, rfl, by rw [← hz4]; exact World.ownsRow_made w4 #[] 0 (Nat.le_refl _) (by unfold maxLen; omega) rfl, by rw [← hz4]; exact (Below.refl _ _).alloc (Nat.le_refl _) _⟩
  case round =>
    obtain ⟨k, hk, rfl, rfl, hown, hb⟩ := hrel
    by_cases hlt : k < 16
    · have l0 : (0 : Int) ≤ (k : Int) := by omega
      have l1 : (k : Int) < 16 := by omega
      have e1 := HX4.out wr hb k hlt
      have e2 := HY.out wr hb k hlt
      have hsz : z ≤ wr.heap.size := by rw [← hz4]; exact hb.size
      obtain ⟨x0, x1⟩ := XB.out k hlt
      obtain ⟨y0, y1⟩ := YB.out k hlt
      have hsb := sumTo_bd (g := x) (M := 500) (k := k) (fun i hi => XB.out i (by omega))
      have HS : Hid (sumTo x (k + 1) = sumTo x k + x k) := rfl
      have HL : Hid ((listF k (fun i => x i + y i)).map (Value.int .i64) ++ [.int .i64 (x k + y k)] = (listF (k + 1) (fun i => x i + y i)).map (Value.int .i64)) := listF_last k (fun i => x i + y i)
      have HE : Hid (∀ w', Below z w4 w' → w'.cell? ⟨gx, k, none⟩ = some (.int .i64 (x k)) ∧ w'.cell? ⟨gy, k, none⟩ = some (.int .i64 (y k))) := fun w' hb => ⟨HX4.out w' hb k hlt, HY.out w' hb k hlt⟩
      generalize sumTo x k = t at *
      generalize x k = u at *
      generalize y k = v at *
      have tb0 : -8000 ≤ t := by omega
      have tb1 : t ≤ 8000 := by omega
      have hw1 : IntKind.i64.wrap (u + v) = u + v := IntWalk.i64_in _ ⟨by omega, by omega⟩
      clear hsb
      go_wp2_with fail
      go_region_held3 (fun w' => w'.cell? ⟨gx, k, none⟩ = some (.int .i64 u) ∧ w'.cell? ⟨gy, k, none⟩ = some (.int .i64 v))
        (first | (with_reducible exact hS) | go_keep)
        ((refine step_append_lies _ (by rfl) _ _ _ (by rfl) z 3 i0 (.int .i64 0) 1 8 Try.underlying24 hi0 hz0 hz1 hz2 rfl (by omega) u6 k _ (by rfl) ((hown.alloc _).drew)
              ⟨wr.heap.size, 0, none⟩ 1 1 [.int .i64 (u + v)] (by rfl) (by rfl) (World.news_of_block (cs := #[.int .i64 (u + v)]) (t := 3) (fr := (0, 0)) (heap_alloc_new wr _)) (by simp [Value.oneCell'])
              (by omega) (by unfold maxLen; omega) (by omega) (by simp; omega) (wr.heap.size + 1) (by simp) ?_; intro g6 c6 w6 hown6 hgrow hat hlt6; have hb6 : Below z w4 w6 := ((hb.alloc hsz _).drew).grown hgrow (by simp; omega) (own_base hown); have hS := HE.out w6 hb6))
      all_goals
        obtain ⟨e3, e4⟩ := hS
        rw [HL.out] at hown6
        clear hgrow hat
        go_wp2
        refine ⟨⟨k + 1, by omega, by go_num, by rw [HS.out], hown6, hb6⟩, ?_⟩
        simp [intOf]; omega
    · obtain rfl : k = 16 := by omega
      obtain ⟨gz, cz, rfl, _, _⟩ := hown.form (by omega)
      have F0 : Hid (∀ w', Below wr.heap.size wr w' → w'.cell? ⟨gp, 0, none⟩ = some (.int .i64 p) ∧ Head w' gx 16 x ∧ Head w' gy 16 y ∧ Head w' gz 16 (fun i => x i + y i)) := fun w' h => by
        have hq : Below z w4 w' := hb.trans (h.mono (by rw [← hz4]; exact hb.size))
        exact ⟨HP4.out w' hq, HX4.out w' hq, HY.out w' hq, head_of hown w' h⟩
      have hb5 := hb4.trans (hb.mono hs4)
      have CF : Hid (∀ (g c : Nat) (f : Nat → Int) w', Head w' g 16 f → (∀ i, i < 16 → -1000 ≤ f i ∧ f i ≤ 1000) → Calls Try.prog 15 #[.slice (some ⟨g, 0, none⟩) 16 c] w' (fun e w'' => (∃ g' c', e = .returned (.slice (some ⟨g', 0, none⟩) 16 c') ∧ ∀ w3, Below w''.heap.size w'' w3 → Head w3 g' 16 (turnF sumR f)) ∧ Below w'.heap.size w' w'')) := fun g c f w' hh hf => by
        have := implFour (some ⟨g, 0, none⟩) c (listF 16 f) w' (ints_of_head hh (World.block_lt_of_cell? w' _ (hh 0 (by omega)))) (by rw [listF_length]; unfold maxLen; omega)
        rw [listF_length, fourL_listF hf, listF_length] at this
        refine this.mono ?_
        rintro e w'' ⟨⟨v, rfl, ho⟩, hc⟩
        obtain ⟨g', c', rfl, _, _⟩ := ho.form (by omega)
        exact ⟨⟨g', c', rfl, head_of ho⟩, hc⟩
      have HA : Hid (turnF sumR x 0 = sumTo x 16) := turn_first x
      have HS : Hid (turnF sumR (fun i => x i + y i) = fun i => turnF sumR x i + turnF sumR y i) := turn_add x y
      have HB : Hid (∀ i, i < 16 → (-18000 ≤ turnF sumR x i ∧ turnF sumR x i ≤ 18000) ∧ -18000 ≤ turnF sumR y i ∧ turnF sumR y i ≤ 18000) := fun i hi => by
        have h1 := In.turned (M := 500) (f := x) (fun i hi => XB.out i hi) i hi
        have h2 := In.turned (M := 500) (f := y) (fun i hi => YB.out i hi) i hi
        omega
      clear hown HP4 HX4 HY hgx4 hgy hb4 hb hz4 hs4
      go_wp2_with fail
      refine (CF.out _ _ x wr (F0.out wr (Below.refl _ _)).2.1 (fun i hi => by have := XB.out i hi; omega)).mono ?_
      rintro e w5 ⟨⟨ga, ca, rfl, ha⟩, hc⟩
      have F1 : Hid (∀ w', Below w5.heap.size w5 w' → (w'.cell? ⟨gp, 0, none⟩ = some (.int .i64 p) ∧ Head w' gx 16 x ∧ Head w' gy 16 y ∧ Head w' gz 16 (fun i => x i + y i)) ∧ Head w' ga 16 (turnF sumR x)) := fun w' h => ⟨F0.out w' (hc.trans (h.mono hc.size)), ha w' h⟩
      have hb6 := hb5.trans (hc.mono hb5.size)
      clear hc ha hb5 F0
      go_wp2_with fail
      refine (CF.out _ _ y w5 (F1.out w5 (Below.refl _ _)).1.2.2.1 (fun i hi => by have := YB.out i hi; omega)).mono ?_
      rintro e w6 ⟨⟨gb, cb, rfl, ha⟩, hc⟩
      have F2 : Hid (∀ w', Below w6.heap.size w6 w' → ((w'.cell? ⟨gp, 0, none⟩ = some (.int .i64 p) ∧ Head w' gx 16 x ∧ Head w' gy 16 y ∧ Head w' gz 16 (fun i => x i + y i)) ∧ Head w' ga 16 (turnF sumR x)) ∧ Head w' gb 16 (turnF sumR y)) := fun w' h => ⟨F1.out w' (hc.trans (h.mono hc.size)), ha w' h⟩
      have hb7 := hb6.trans (hc.mono hb6.size)
      clear hc ha hb6 F1
      go_wp2_with fail
      refine (CF.out _ _ (fun i => x i + y i) w6 (F2.out w6 (Below.refl _ _)).1.1.2.2.2 (fun i hi => by have h1 := XB.out i hi; have h2 := YB.out i hi; omega)).mono ?_
      rintro e w7 ⟨⟨gc, cc, rfl, ha⟩, hc⟩
      rw [HS.out] at ha
      have F3 : Hid (∀ w', Below w7.heap.size w7 w' → w'.cell? ⟨gp, 0, none⟩ = some (.int .i64 p) ∧ Head w' ga 16 (turnF sumR x) ∧ Head w' gb 16 (turnF sumR y) ∧ Head w' gc 16 (fun i => turnF sumR x i + turnF sumR y i)) := fun w' h => by
        obtain ⟨⟨⟨h1, _⟩, h2⟩, h3⟩ := F2.out w' (hc.trans (h.mono hc.size))
        exact ⟨h1, h2, h3, ha w' h⟩
      have hb8 := hb7.trans (hc.mono hb7.size)
      clear hc ha hb7 F2 HS CF XB YB
      generalize turnF sumR x = A at *
      generalize turnF sumR y = B at *
      generalize sumTo x 16 = S at *
      -- one number alone
      go_wp2_with (at_make; refine wpList_make_full _ (by rfl) _ _ 24 (by rfl) w7.heap.size 3 i0 (.int .i64 0) 1 Try.underlying24 hi0 hz0 hz1 .i64 .i64 _ _ 16 (by rfl) (by rfl) (by rfl) (by rfl) (by rw [hz2]; omega) (by unfold maxLen; omega) (Nat.le_refl _) ?_; intro w8 hown0 hgrow0; have hc8 : Below w7.heap.size w7 w8 := (Below.refl _ _).grown hgrow0 (Nat.le_refl _) (fun j hj => by cases hj); have dp := (F3.out w8 hc8).1; have hcc := hown0.cellAt 0 (by omega); have hfz := hown0.frozenAt 0; rw [int_made] at hcc)
      have hst := hown0.stored 0 (.int .i64 (64 * (p - 5000)))
      have hos := hst.1
      rw [int_made, alone_set] at hos
      have hc9 : Below w7.heap.size w7 (w8.setCell ⟨w7.heap.size, 0, none⟩ (.int .i64 (64 * (p - 5000)))) := hc8.grown hst.2 hc8.size (fun j hj => by cases hj; exact Nat.le_refl _)
      have hh9 := head_of hos _ (Below.refl _ _)
      have hl9 := (hos.lt _ rfl).2
      clear hst hos hown0 hgrow0 hcc hfz dp hc8
      generalize w8.setCell ⟨w7.heap.size, 0, none⟩ (.int .i64 (64 * (p - 5000))) = w9 at *
      have hb9 := hb8.trans (hc9.mono hb8.size)
      have CB := implFourBack (some ⟨w7.heap.size, 0, none⟩) 16 (listF 16 (fun i => if i = 0 then 64 * (p - 5000) else 0)) w9 (ints_of_head hh9 hl9) (by rw [listF_length]; unfold maxLen; omega)
      rw [listF_length, backL_alone (p - 5000) (by omega), listF_length] at CB
      refine CB.mono ?_
      rintro e w10 ⟨⟨v, rfl, ho⟩, hc⟩
      obtain ⟨ge, ce, rfl, _, _⟩ := ho.form (by omega)
      have he := head_of ho
      have hq10 := hc9.trans (hc.mono hc9.size)
      have F4 : Hid (∀ w', Below w10.heap.size w10 w' → w'.cell? ⟨gp, 0, none⟩ = some (.int .i64 p) ∧ (∀ i, i < 16 → w'.cell? ⟨ga, i, none⟩ = some (.int .i64 (A i)) ∧ w'.cell? ⟨gb, i, none⟩ = some (.int .i64 (B i)) ∧ w'.cell? ⟨gc, i, none⟩ = some (.int .i64 (A i + B i)) ∧ w'.cell? ⟨ge, i, none⟩ = some (.int .i64 (p - 5000)))) := fun w' h => by
        obtain ⟨h1, h2, h3, h4⟩ := F3.out w' (hq10.trans (h.mono hq10.size))
        exact ⟨h1, fun i hi => ⟨h2 i hi, h3 i hi, h4 i hi, he w' h i hi⟩⟩
      have hb10 := hb9.trans (hc.mono hb9.size)
      have ha0 := ((F4.out w10 (Below.refl _ _)).2 0 (by omega)).1
      rw [HA.out] at ha0
      clear ho he hc hq10 hc9 hh9 hl9 CB F3 HA hb9 hb8
      go_wp2_with fail
      clear ha0
      go_loopw [14] (fun i ws => ∃ k : Nat, k ≤ 16 ∧ i = .int .i64 (k : Int) ∧ Below w10.heap.size w10 ws) (fun i _ => 16 - (intOf i).toNat)
      case atStart => exact ⟨0, by omega, rfl, Below.refl _ _⟩
      case round =>
        obtain ⟨k, hk, rfl, hb⟩ := hrel
        by_cases hlt : k < 16
        · have l0 : (0 : Int) ≤ (k : Int) := by omega
          have l1 : (k : Int) < 16 := by omega
          obtain ⟨d0, dd⟩ := F4.out _ hb
          obtain ⟨d1, d2, d3, d4⟩ := dd k hlt
          obtain ⟨⟨a0, a1⟩, b0, b1⟩ := HB.out k hlt
          clear dd
          generalize A k = u at *
          generalize B k = v at *
          have e1 : ((u + v : Int) != (u + v)) = false := by simp
          have e2 : ((p - 5000 : Int) != (p - 5000)) = false := by simp
          go_wp2_with fail
          go_quiet (fail)
          go_wp2
          refine ⟨⟨k + 1, by omega, by go_num, below_drewN hb _⟩, ?_⟩
          simp [intOf]; omega
        · obtain rfl : k = 16 := by omega
          go_wp2
          go_ret
          exact ⟨rfl, hb10.trans (hb.mono hb10.size)⟩
end Go.Proofs.Ytholbbfibmnicaa
