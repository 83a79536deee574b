/-
  The map of the kinds of units, as impl.kindBytes makes it, and what is found in it; spec.l07Kind.
-/
import Derived.Test.YtdokmojifkggjaaDoorRows
import Derived.WalkKit
import Derived.KernelRfl
import Derived.Maps.OwnSet
namespace Go.Proofs.YtdokmojifkggjaaDoor
open Go.RowKit Go.Maps
set_option linter.unusedVariables false
set_option maxRecDepth 20000

abbrev kiE (n : Int) : DataW Unit := .lit (.int .u8 n)
/-- The map with its four kinds. -/
def kindD : DataW Unit := ((((DataW.map []).put (.int .i64 1) (kiE 1)).put (.int .i64 5) (kiE 5)).put (.int .i64 7) (kiE 7)).put (.int .i64 8) (kiE 8)
theorem kindD_eq : kindD = .map [(.int .i64 1, kiE 1), (.int .i64 5, kiE 5), (.int .i64 7, kiE 7), (.int .i64 8, kiE 8)] := by
  simp [kindD, DataW.put, DataW.insert, Lit.sameKey, Lit.before]
/-- Whether a number is a kind. -/
def kindB (k : Int) : Bool := decide (k = 1) || (decide (k = 5) || (decide (k = 7) || decide (k = 8)))
theorem kind_has (k : Int) : Maps.has kindD (.int .i64 k) = kindB k := by
  rw [kindD_eq]
  simp only [Maps.has, List.any_cons, List.any_nil, Lit.sameKey, true_and, Bool.or_false, kindB, eq_comm (a := k)]
theorem kindB_cases {k : Int} (h : kindB k = true) : k = 1 ∨ k = 5 ∨ k = 7 ∨ k = 8 := by
  simpa [kindB] using h
theorem kindB_no {k : Int} (h : kindB k = false) : (k ≠ 1 ∧ k ≠ 5) ∧ k ≠ 7 ∧ k ≠ 8 := by
  simp [kindB] at h; omega
theorem kind_at {k : Int} (h : kindB k = true) : kindD.atKey (.int .i64 k) (kiE 0) = kiE k := by
  rw [kindD_eq]
  rcases kindB_cases h with rfl | rfl | rfl | rfl <;> rfl

theorem keyed3 : Keyed Tryd.prog 3 := int_keyed Tryd.underlying3
theorem zero5 (w : World) : (zeroValue 5).run Tryd.prog w = .ok (.int .u8 0) w := by kernel_rfl
theorem key3 (k : Int) (h : (Lit.int .i64 k).wf = true) : keyOf Tryd.prog 3 (.int .i64 k) = some (.int .i64 k) := keyOf_int_mk Tryd.underlying3 h

/-- What impl.kindBytes hands back. -/
theorem kinds_any (w : World) :
    Calls Tryd.prog 33 #[] w fun e w' => e = .returned (.map (some w.heap.size)) ∧ w'.ownsMap Tryd.prog 3 (plainElem Tryd.prog 5) w.heap.size 4 kindD ∧ Below w.heap.size w w' := by
  have hmm := @run_makeMap Tryd.prog
  have h0 := World.ownsMap_made w Tryd.prog 3 (plainElem (H := Unit) Tryd.prog 5)
  have b0 := (Below.refl w.heap.size w).alloc (Nat.le_refl _) (.map #[] 0)
  obtain ⟨w1, r1, h1, g1⟩ := h0.update (t := 63) (e := 5) (d := kiE 1) (ps := []) keyed3 Tryd.underlying63 (by unfold maxLen; omega) (key3 1 (by decide)) (plainElem_int (q := .u8) (a := 1) Tryd.underlying5 (by decide))
  have b1 := b0.grown g1 b0.size (fun j hj => by cases hj; exact Nat.le_refl _)
  obtain ⟨w2, r2, h2, g2⟩ := h1.update (t := 63) (e := 5) (d := kiE 5) (ps := []) keyed3 Tryd.underlying63 (by unfold maxLen; omega) (key3 5 (by decide)) (plainElem_int (q := .u8) (a := 5) Tryd.underlying5 (by decide))
  have b2 := b1.grown g2 b1.size (fun j hj => by cases hj; exact Nat.le_refl _)
  obtain ⟨w3, r3, h3, g3⟩ := h2.update (t := 63) (e := 5) (d := kiE 7) (ps := []) keyed3 Tryd.underlying63 (by unfold maxLen; omega) (key3 7 (by decide)) (plainElem_int (q := .u8) (a := 7) Tryd.underlying5 (by decide))
  have b3 := b2.grown g3 b2.size (fun j hj => by cases hj; exact Nat.le_refl _)
  obtain ⟨w4, r4, h4, g4⟩ := h3.update (t := 63) (e := 5) (d := kiE 8) (ps := []) keyed3 Tryd.underlying63 (by unfold maxLen; omega) (key3 8 (by decide)) (plainElem_int (q := .u8) (a := 8) Tryd.underlying5 (by decide))
  have b4 := b3.grown g4 b3.size (fun j hj => by cases hj; exact Nat.le_refl _)
  clear h0 h1 h2 h3 b0 b1 b2 b3 g1 g2 g3 g4
  go_enter Tryd.func33, Tryd.ntmps33
  go_wp2
  go_ret
  exact ⟨rfl, h4, b4⟩
/-- What is found in it. -/
theorem kind_look {w : World} {b : Nat} (h : w.ownsMap Tryd.prog 3 (plainElem Tryd.prog 5) b 4 kindD) (k : Int) (hk : (Lit.int .i64 k).wf = true) :
    ∃ c : Int, (Instr.lookup 63 (.map (some b)) (.int .i64 k) true).run Tryd.prog w = .ok (.tuple #[.int .u8 c, .bool (kindB k)]) w ∧ (kindB k = true → c = k) := by
  obtain ⟨v, ps, hrun, hv⟩ := h.look_ok keyed3 Tryd.underlying63 (zero5 w) (plainElem_int (q := .u8) (a := 0) Tryd.underlying5 (by decide)) (key3 k hk)
  obtain ⟨c, rfl, hc, _⟩ := plainElem_int_inv Tryd.underlying5 hv
  refine ⟨c, by rw [hrun, kind_has], fun hb => ?_⟩
  have e := congrArg Prod.fst hc
  rw [kind_at hb] at e
  simpa using e.symm
end Go.Proofs.YtdokmojifkggjaaDoor
