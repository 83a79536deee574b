/-
  The walk of laws.FnSigns: signs are the same both ways, and of unlike rows as many are alike as are not.
-/
import Derived.Test.YtholbbfibmnicaaCodeKit
import Derived.Test.YtholbbfibmnicaaDrawPlaces
import Derived.Test.YtholbbfibmnicaaSignWalk
namespace Go.Proofs.Ytholbbfibmnicaa
open Go.RowKit
set_option linter.unusedVariables false
set_option maxRecDepth 20000

theorem rem_eight {p : Int} (h : 0 ≤ p) : ∃ i : Nat, i < 8 ∧ p % 8 = (i : Int) := ⟨(p % 8).toNat, by omega, by omega⟩

set_option maxHeartbeats 3200000 in
theorem fnSigns_walk (a : Option Addr) (len cap : Nat) (w : World) (hc : CodeIn w a len cap) :
    Calls Try.prog 5 #[.slice a len cap] w fun e w' => e = .returned (.bool true) ∧ Below w.heap.size w w' := by
  obtain ⟨hlen, _, hrow⟩ := hc
  have HRow : Hid (CodeRow w w.heap.size a len) := hrow
  clear hrow
  go_enter Try.func5, Try.ntmps5
  go_wp2_with fail
  refine (big_any a len cap w hlen).mono ?_
  rintro e w0 ⟨rfl, hw⟩
  subst w0
  go_wp2_with fail
  refine (drawPlaces_any a len cap w.heap.size w HRow.out (Nat.le_refl _)).mono ?_
  rintro e w1 ⟨gp, cp, lp, rfl, hlp, hxp, hown, hb1⟩
  have d0 := cellI hown hlp 0 (by omega)
  have d1 := cellI hown hlp 1 (by omega)
  obtain ⟨p0, p0'⟩ := getD_in hlp (show 0 < 12 by omega) hxp
  obtain ⟨q0, q0'⟩ := getD_in hlp (show 1 < 12 by omega) hxp
  clear hown hxp hlp HRow hlen
  generalize lp.getD 0 0 = p at *
  generalize lp.getD 1 0 = q at *
  obtain ⟨i, hi, ei⟩ := rem_eight p0
  obtain ⟨j, hj, ej⟩ := rem_eight q0
  have HSG : Hid (sumTo (fun k => sg i k * sg j k) 8 = if i = j then 8 else 0) := sg_rows i j hi hj
  have CS : Hid (∀ (x y : Nat) w', x < 8 → y < 8 → Calls Try.prog 21 #[.int .i64 (x : Int), .int .i64 (y : Int)] w' (fun e w'' => e = .returned (.int .i64 (sg x y)) ∧ w'' = w')) := fun x y w' hx hy => implSign x y w' hx hy
  have HBD : Hid (∀ k : Nat, k ≤ 8 → -((k : Int) * 1) ≤ sumTo (fun k => sg i k * sg j k) k ∧ sumTo (fun k => sg i k * sg j k) k ≤ (k : Int) * 1) := fun k hk => sumTo_bd (fun x hx => by
    rcases sg_one i x with e | e <;> rcases sg_one j x with e' | e' <;> rw [e, e'] <;> decide)
  have i0 : (0 : Int) ≤ (i : Int) := by omega
  have i1 : (i : Int) < 8 := by omega
  have j0 : (0 : Int) ≤ (j : Int) := by omega
  have j1 : (j : Int) < 8 := by omega
  go_wp2_with fail
  rw [ei, ej]
  clear d0 d1 ei ej p0 p0' q0 q0'
  go_loopw [6, 7] (fun s x wr => ∃ k : Nat, k ≤ 8 ∧ x = .int .i64 (k : Int) ∧ s = .int .i64 (sumTo (fun k => sg i k * sg j k) k) ∧ Below w.heap.size w wr) (fun _ x _ => 8 - (intOf x).toNat)
  case atStart => exact ⟨0, by omega, rfl, rfl, hb1⟩
  case round =>
    obtain ⟨k, hk, rfl, rfl, hb⟩ := hrel
    clear hb1
    by_cases hlt : k < 8
    · have l0 : (0 : Int) ≤ (k : Int) := by omega
      have l1 : (k : Int) < 8 := by omega
      have C1 : Hid (∀ w', Calls Try.prog 21 #[.int .i64 (i : Int), .int .i64 (k : Int)] w' (fun e w'' => e = .returned (.int .i64 (sg i k)) ∧ w'' = w')) := fun w' => CS.out i k w' hi hlt
      have C2 : Hid (∀ w', Calls Try.prog 21 #[.int .i64 (k : Int), .int .i64 (i : Int)] w' (fun e w'' => e = .returned (.int .i64 (sg i k)) ∧ w'' = w')) := fun w' => by
        rw [sg_comm i k]
        exact CS.out k i w' hlt hi
      have C3 : Hid (∀ w', Calls Try.prog 21 #[.int .i64 (j : Int), .int .i64 (k : Int)] w' (fun e w'' => e = .returned (.int .i64 (sg j k)) ∧ w'' = w')) := fun w' => CS.out j k w' hj hlt
      have HN : Hid (sumTo (fun k => sg i k * sg j k) (k + 1) = sumTo (fun k => sg i k * sg j k) k + sg i k * sg j k) := rfl
      obtain ⟨t0, t1⟩ := HBD.out k hk
      have h1 := sg_one i k
      have h2 := sg_one j k
      generalize sumTo (fun k => sg i k * sg j k) k = t at *
      have tb0 : -8 ≤ t := by omega
      have tb1 : t ≤ 8 := by omega
      clear t0 t1 hi hj
      rcases h1 with h1 | h1 <;> rcases h2 with h2 | h2
      all_goals
        rw [h1] at C1 C2
        rw [h2] at C3
        rw [h1, h2] at HN
        clear h1 h2
        go_wp2_with fail
        refine (C1.out _).mono ?_
        rintro e w2 ⟨rfl, hw⟩
        subst w2
        go_wp2_with fail
        refine (C2.out _).mono ?_
        rintro e w2 ⟨rfl, hw⟩
        subst w2
        go_wp2_with fail
        refine (C3.out _).mono ?_
        rintro e w2 ⟨rfl, hw⟩
        subst w2
        go_wp2_with fail
        refine ⟨⟨k + 1, by omega, by go_num, by rw [HN.out]; go_num, hb⟩, ?_⟩
        simp [intOf]; omega
    · obtain rfl : k = 8 := by omega
      by_cases hij : i = j
      · subst hij
        rw [HSG.out, if_pos rfl]
        go_wp2
        go_ret
        exact ⟨rfl, hb⟩
      · rw [HSG.out, if_neg hij]
        have hne : ((i : Int) == (j : Int)) = false := by rw [beq_eq_false_iff_ne]; omega
        have hne' : (i == j) = false := by rw [beq_eq_false_iff_ne]; exact hij
        go_wp2
        go_ret
        have hbn : ((i : Int) != (j : Int)) = true := by rw [bne, hne]; rfl
        exact ⟨by show Ending.returned (Value.bool ((i : Int) != (j : Int))) = _; rw [hbn], hb⟩
end Go.Proofs.Ytholbbfibmnicaa
