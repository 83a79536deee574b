/-
  What turns of four say of sums, as facts of numbers and of lists.
-/
import Derived.Test.YtholbbfibmnicaaFourTops
import Derived.Test.YtholbbfibmnicaaSignMath
namespace Go.Proofs.Ytholbbfibmnicaa
open Go.RowKit
set_option linter.unusedVariables false
set_option maxRecDepth 20000

theorem sumR_add (j : Nat) (a b c d a' b' c' d' : Int) : sumR j (a + a') (b + b') (c + c') (d + d') = sumR j a b c d + sumR j a' b' c' d' := by
  unfold sumR
  split <;> omega
theorem rows_add (f g : Nat → Int) : rowsF sumR (fun i => f i + g i) = fun i => rowsF sumR f i + rowsF sumR g i := funext fun i => sumR_add _ _ _ _ _ _ _ _ _
theorem turn_add (f g : Nat → Int) : turnF sumR (fun i => f i + g i) = fun i => turnF sumR f i + turnF sumR g i := by
  unfold turnF
  rw [rows_add]
  have e : flipF (fun i => rowsF sumR f i + rowsF sumR g i) = fun i => flipF (rowsF sumR f) i + flipF (rowsF sumR g) i := rfl
  rw [e, rows_add]
  rfl
/-- The first one is the sum of all. -/
theorem turn_first (f : Nat → Int) : turnF sumR f 0 = sumTo f 16 := by
  simp [turnF, flipF, rowsF, sumR, sumTo]
  omega
/-- Of one number alone all sixteen come back. -/
theorem turn_alone (k : Int) : ∀ i, i < 16 → (turnF bakR (fun i => if i = 0 then 64 * k else 0) i + 32) / 64 = k := fun i hi => by
  have hc : i = 0 ∨ i = 1 ∨ i = 2 ∨ i = 3 ∨ i = 4 ∨ i = 5 ∨ i = 6 ∨ i = 7 ∨ i = 8 ∨ i = 9 ∨ i = 10 ∨ i = 11 ∨ i = 12 ∨ i = 13 ∨ i = 14 ∨ i = 15 := by omega
  rcases hc with rfl | rfl | rfl | rfl | rfl | rfl | rfl | rfl | rfl | rfl | rfl | rfl | rfl | rfl | rfl | rfl <;> simp [turnF, flipF, rowsF, bakR] <;> omega
theorem listF_last (n : Nat) (f : Nat → Int) : (listF n f).map (Value.int .i64) ++ [.int .i64 (f n)] = (listF (n + 1) f).map (Value.int .i64) := by
  unfold listF
  rw [List.range_succ, List.map_append, List.map_append]
  rfl
theorem inB_ofF {M : Int} {l : List Int} (h : ∀ x ∈ l, -M ≤ x ∧ x ≤ M) : inB M l = true := by
  unfold inB
  rw [List.all_eq_true]
  intro x hx
  have := h x hx
  simp [this.1, this.2]
theorem inB_listFF {M : Int} {n : Nat} {f : Nat → Int} (h : ∀ i, i < n → -M ≤ f i ∧ f i ≤ M) : inB M (listF n f) = true := inB_iff.2 fun i hi => by
  rw [listF_length] at hi
  rw [listF_get f hi]
  exact h i hi
theorem fourL_of {l : List Int} (hl : l.length = 16) (hx : ∀ i, i < 16 → -1000 ≤ l.getD i 0 ∧ l.getD i 0 ≤ 1000) : fourL l = listF 16 (turnF sumR (fun i => l.getD i 0)) := by
  unfold fourL
  rw [if_pos (by rw [inB_iff.2 (fun i hi => hx i (by omega))]; simpa using hl)]
theorem fourL_listF {f : Nat → Int} (hx : ∀ i, i < 16 → -1000 ≤ f i ∧ f i ≤ 1000) : fourL (listF 16 f) = listF 16 (turnF sumR f) := by
  rw [fourL_of (listF_length _ _) (fun i hi => by rw [listF_get f hi]; exact hx i hi)]
  exact listF_congr fun i hi => turn_congr (fun j hj => listF_get f hj) i hi
theorem backL_alone (k : Int) (h : -5000 ≤ k ∧ k ≤ 5000) : backL (listF 16 (fun i => if i = 0 then 64 * k else 0)) = listF 16 (fun _ => k) := by
  unfold backL
  rw [if_pos (by
    rw [listF_length, inB_listFF (M := 10000000) (fun i hi => by by_cases h0 : i = 0 <;> simp [h0] <;> omega)]
    rfl)]
  refine listF_congr fun i hi => ?_
  rw [turn_congr (g := fun i => if i = 0 then 64 * k else 0) (fun j hj => listF_get _ hj) i hi]
  exact turn_alone k i hi
end Go.Proofs.Ytholbbfibmnicaa
