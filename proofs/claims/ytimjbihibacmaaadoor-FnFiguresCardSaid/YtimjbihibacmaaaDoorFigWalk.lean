/-
  The walk of the law laws.FnFigures: drawn texts and numbers come back, and what is brought between stays.
-/
import Derived.Test.YtimjbihibacmaaaDoorReadDecimal
import Derived.Test.YtimjbihibacmaaaDoorDrawPlaces
import Derived.Test.YtimjbihibacmaaaDoorUnImpl
import Derived.Test.YtimjbihibacmaaaDoorHexBack
namespace Go.Proofs.YtimjbihibacmaaaDoor
open Go.RowKit
set_option linter.unusedVariables false

def brF (n a b : Int) : Int := if n < a then a else if b < n then b else n
theorem brF_bd (n a b : Int) (h : a ≤ b) : a ≤ brF n a b ∧ brF n a b ≤ b := by unfold brF; split <;> (try split) <;> omega
theorem brF_in (n a b : Int) (h1 : a ≤ n) (h2 : n ≤ b) : brF n a b = n := by unfold brF; rw [if_neg (by omega), if_neg (by omega)]
set_option maxHeartbeats 400000 in
theorem brought_any (n a b : Int) (w : World) (h : a ≤ b) (b1 : -1000000000 ≤ n) (b2 : n ≤ 1000000000) (b3 : -1000000000 ≤ a) (b4 : b ≤ 1000000000) :
    Calls Tryd.prog 13 #[.int .i64 n, .int .i64 a, .int .i64 b] w fun e w' => e = .returned (.int .i64 (brF n a b)) ∧ w' = w := by
  have hr : ∀ x y : Int, x = y → Ending.returned (.int .i64 x) = .returned (.int .i64 y) := fun x y h => by rw [h]
  go_enter Tryd.func13, Tryd.ntmps13
  go_wp2
  go_ret
  refine ⟨hr _ _ ?_, rfl⟩
  unfold brF
  by_cases c1 : n < a
  · rw [if_pos c1]; omega
  · rw [if_neg c1]
    by_cases c2 : b < n
    · rw [if_pos c2]; omega
    · rw [if_neg c2]; omega

set_option maxHeartbeats 400000 in
theorem big_any (a : Option Addr) (len cap : Nat) (w : World) (h : (len : Int) ≤ 1048576) :
    Calls Tryd.prog 6 #[.slice a len cap] w fun e w' => e = .returned (.bool false) ∧ w' = w := by
  go_enter Tryd.func6, Tryd.ntmps6
  go_wp2
  go_ret
  exact ⟨by simp; omega, rfl⟩
set_option maxHeartbeats 400000 in
theorem big_yes (a : Option Addr) (len cap : Nat) (w : World) (h : 1048576 < (len : Int)) :
    Calls Tryd.prog 6 #[.slice a len cap] w fun e w' => e = .returned (.bool true) ∧ w' = w := by
  go_enter Tryd.func6, Tryd.ntmps6
  go_wp2
  go_ret
  exact ⟨rfl, rfl⟩
theorem cellI {w : World} {B g c : Nat} {l : List Int} (h : w.ownsRow B 3 1 (.slice (some ⟨g, 0, none⟩) 12 c) 12 (l.map (Value.int .i64))) (hl : l.length = 12) (j : Nat) (hj : j < 12) : w.cell? ⟨g, j, none⟩ = some (.int .i64 (l.getD j 0)) := by
  rw [h.cellAt j (by omega)]
  simp [List.getElem?_eq_getElem (show j < l.length by omega)]
theorem getD_in {l : List Int} {n j : Nat} (hl : l.length = n) (hj : j < n) (h : ∀ x ∈ l, 0 ≤ x ∧ x < 10000) : 0 ≤ l.getD j 0 ∧ l.getD j 0 < 10000 := by
  rw [List.getD_eq_getElem?_getD, List.getElem?_eq_getElem (by omega)]
  exact h _ (List.getElem_mem _)

set_option maxHeartbeats 3200000 in
theorem figures_walk (a : Option Addr) (len cap : Nat) (w : World) (hc : CodeRow w w.heap.size a len) (hg : 3 < w.heap.size) (hv : Sentinels w) (htab : Lib.TabIs Tryd.prog w "internal/strconv.uint64pow10" .u64 Lib.pow10Tab) :
    Calls Tryd.prog 3 #[.slice a len cap] w fun e w' => e = .returned (.bool true) ∧ Below w.heap.size w w' := by
  have HC : Hid (CodeRow w w.heap.size a len) := hc
  have HV : Hid (Sentinels w) := hv
  have HT : Hid (Lib.TabIs Tryd.prog w "internal/strconv.uint64pow10" .u64 Lib.pow10Tab) := htab
  have hlen : (len : Int) ≤ 1048576 := by have := hc.1; omega
  clear hc hv htab
  go_enter Tryd.func3, Tryd.ntmps3
  go_wp2_with fail
  refine (big_any a len cap w hlen).mono ?_
  rintro e w0 ⟨rfl, hw⟩
  subst w0
  go_wp2_with fail
  refine (drawPlaces_any a len cap w.heap.size _ HC.out (Nat.le_refl _)).mono ?_
  rintro e w1 ⟨g, c, l, rfl, hl, hin, hown, hb1⟩
  have q0 := getD_in hl (show 0 < 12 by omega) hin
  have q1 := getD_in hl (show 1 < 12 by omega) hin
  have q2 := getD_in hl (show 2 < 12 by omega) hin
  have q3 := getD_in hl (show 3 < 12 by omega) hin
  have q4 := getD_in hl (show 4 < 12 by omega) hin
  have d0 := cellI hown hl 0 (by omega)
  have d1 := cellI hown hl 1 (by omega)
  have d2 := cellI hown hl 2 (by omega)
  have d3 := cellI hown hl 3 (by omega)
  have d4 := cellI hown hl 4 (by omega)
  generalize l.getD 0 0 = p0 at *
  generalize l.getD 1 0 = p1 at *
  generalize l.getD 2 0 = p2 at *
  generalize l.getD 3 0 = p3 at *
  generalize l.getD 4 0 = p4 at *
  have hgl : g < w1.heap.size := World.block_lt_of_cell? w1 _ d0
  have hbs1 := hb1.size
  clear hin hown
  have HC1 : Hid (CodeRow w1 w.heap.size a len) := HC.out.below hb1
  clear hl
  go_wp2_with fail
  refine (drawRow_any a len cap w.heap.size _ HC1.out hbs1).mono ?_
  rintro e w2 ⟨lt, rfl, hlt, _, hb2⟩
  have hts : (strOfNums lt).size ≤ 60 := by rw [strOfNums_size]; omega
  generalize strOfNums lt = t at *
  go_wp2_with fail
  refine (hx.implHex t _ (by omega)).mono ?_
  rintro e w3 ⟨rfl, hb3⟩
  have hhs : (strOfNums (hx.hexL t.data.toList)).size = 2 * t.size := by rw [strOfNums_size, hx.hexL_length]; rfl
  have HU : Hid (hx.unV (strOfNums (hx.hexL t.data.toList)) = .tuple #[.string t, .bool true]) := hx.un_hex t
  generalize strOfNums (hx.hexL t.data.toList) = hh at *
  have S10 : Hid (∀ W, Calls Tryd.prog 10 #[.string hh] W fun e w' => e = .returned (.tuple #[.string t, .bool true]) ∧ Below W.heap.size W w') := fun W => by
    have := hx.implUnhex hh W (by omega) t.size hhs
    rw [HU.out] at this
    exact this
  go_wp2_with fail
  refine (S10.out _).mono ?_
  rintro e w4 ⟨rfl, hb4⟩
  have b12 : Below w1.heap.size w1 w4 := (hb2.trans (hb3.mono hb2.size)).trans (hb4.mono (Nat.le_trans hb2.size hb3.size))
  have e0 : w4.cell? ⟨g, 0, none⟩ = some (.int .i64 p0) := (b12.cell (p := ⟨g, 0, none⟩) hgl).trans d0
  have e1 : w4.cell? ⟨g, 1, none⟩ = some (.int .i64 p1) := (b12.cell (p := ⟨g, 1, none⟩) hgl).trans d1
  have e2 : w4.cell? ⟨g, 2, none⟩ = some (.int .i64 p2) := (b12.cell (p := ⟨g, 2, none⟩) hgl).trans d2
  have e3 : w4.cell? ⟨g, 3, none⟩ = some (.int .i64 p3) := (b12.cell (p := ⟨g, 3, none⟩) hgl).trans d3
  have e4 : w4.cell? ⟨g, 4, none⟩ = some (.int .i64 p4) := (b12.cell (p := ⟨g, 4, none⟩) hgl).trans d4
  have hb14 : Below w.heap.size w w4 := hb1.trans (b12.mono hbs1)
  have hg4 : g < w4.heap.size := Nat.lt_of_lt_of_le hgl b12.size
  clear d0 d1 d2 d3 d4 hb2 hb3 hb4 b12 hb1
  go_wp2_with fail
  go_quiet (fail)
  have hq : 0 ≤ p0 * 10000 + p1 ∧ p0 * 10000 + p1 ≤ 1000000000 := by omega
  generalize p0 * 10000 + p1 = nI at *
  obtain ⟨n, rfl⟩ := Int.eq_ofNat_of_zero_le hq.1
  have hn : n ≤ 1000000000 := by omega
  have hb4 : Below w.heap.size w (w4.drewN nq) := below_drewN hb14 nq
  have HT4 : Hid (Lib.TabIs Tryd.prog (w4.drewN nq) "internal/strconv.uint64pow10" .u64 Lib.pow10Tab) := var?_below hb4 fnExactDecimal.gTab hg HT.out
  have HV4 : Hid (Sentinels (w4.drewN nq)) := fnExactReadDecimal.sentinels_below HV.out hb4 hg
  go_wp2_with fail
  refine (implDec (n : Int) _ (by omega) (by omega) HT4.out).mono ?_
  rintro e w5 ⟨rfl, hb5⟩
  have hgs : 3 < (w4.drewN nq).heap.size := Nat.lt_of_lt_of_le hg hb4.size
  have S11 : Hid (Calls Tryd.prog 11 #[.string ⟨(Lib.itoa (n : Int)).toArray⟩] w5 fun e w' => e = .returned (.tuple #[.int .i64 n, .bool true]) ∧ Below w5.heap.size w5 w') := by
    have hd : Lib.itoa (n : Int) = Lib.decDigits n := Lib.itoa_nonneg n
    have hz : (⟨(Lib.itoa (n : Int)).toArray⟩ : ByteArray).size ≤ 1048576 := by
      show (Lib.itoa (n : Int)).toArray.size ≤ 1048576
      rw [hd]
      have := digits_len n hn
      simp; omega
    have := implRead ⟨(Lib.itoa (n : Int)).toArray⟩ w5 hz (fnExactReadDecimal.sentinels_below HV4.out hb5 hgs) (Nat.lt_of_lt_of_le hgs hb5.size) fnExactDecimal.gTab (var?_below hb5 fnExactDecimal.gTab hgs HT4.out)
    rw [readV_yes hn (by rw [hd])] at this
    exact this
  go_wp2_with fail
  refine S11.out.mono ?_
  rintro e w6 ⟨rfl, hb6⟩
  have b46 : Below (w4.drewN nq).heap.size (w4.drewN nq) w6 := hb5.trans (hb6.mono hb5.size)
  have k2 : w6.cell? ⟨g, 2, none⟩ = some (.int .i64 p2) := (b46.cell (p := ⟨g, 2, none⟩) hg4).trans e2
  have k3 : w6.cell? ⟨g, 3, none⟩ = some (.int .i64 p3) := (b46.cell (p := ⟨g, 3, none⟩) hg4).trans e3
  have k4 : w6.cell? ⟨g, 4, none⟩ = some (.int .i64 p4) := (b46.cell (p := ⟨g, 4, none⟩) hg4).trans e4
  have hb16 : Below w.heap.size w w6 := hb4.trans (b46.mono hb4.size)
  clear e0 e1 e2 e3 e4 hb5 hb6 b46 hb4 hb14 hgs hg4 hgl hbs1
  generalize Lib.itoa (n : Int) = ds at *
  go_wp2_with fail
  go_quiet ((go_at_call 13; exact Calls.quiet_of_same (brought_any _ _ _ _ (by omega) (by omega) (by omega) (by omega) (by omega))))
  have hbr := brF_bd (p2 - 5000) (-p3) p4 (by omega)
  have hbi := brF_in (brF (p2 - 5000) (-p3) p4) (-p3) p4 hbr.1 hbr.2
  generalize brF (p2 - 5000) (-p3) p4 = bb at *
  go_wp2_with fail
  obtain ⟨hbr1, hbr2⟩ := hbr
  have hd1 : decide (-p3 ≤ bb) = true := by simpa using hbr1
  have hd2 : decide (bb ≤ p4) = true := by simpa using hbr2
  have hz : ((hh.size : Int) == 2 * (t.size : Int)) = true := by rw [beq_iff_eq]; omega
  have hz2 : ((2 * (t.size : Int)) == 2 * (t.size : Int)) = true := by simp
  have HI : Hid (brF bb (-p3) p4 = bb) := hbi
  clear hbi
  refine wp_region_quiet_lit (by kernel_rfl) (by kernel_rfl) ?_
  repeat (any_goals (first | go_big_quiet_step (fail) | quiet_step (fail)))
  refine wpQuiet_step (fun K hK => ?_)
  go_simp
  refine ⟨.int .i64 bb, fun m => (brought_any bb (-p3) p4 _ (by omega) (by omega) (by omega) (by omega) (by omega)).mono (fun e w'' ⟨h1, h2⟩ => ⟨by rw [h1, HI.out], m, h2⟩), hK _ ?_⟩
  clear hK K
  repeat (any_goals (first | go_big_quiet_step (fail) | quiet_step (fail)))
  refine wpQuiet_nil ?_
  intro _ hw'
  obtain ⟨nq2, hw2⟩ := hw'
  subst hw2
  go_wp2
  go_ret
  exact ⟨by simp, below_drewN (below_drewN hb16 _) _⟩
end Go.Proofs.YtimjbihibacmaaaDoor
