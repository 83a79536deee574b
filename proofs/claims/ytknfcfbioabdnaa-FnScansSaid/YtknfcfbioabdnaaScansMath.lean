/-
  What a scan says: a list comes back from it; each place comes once; two next ones lie on the same diagonal or the one behind.
-/
import Derived.Test.YtknfcfbioabdnaaScanAny
namespace Go.Proofs.Ytknfcfbioabdnaa
open Go.RowKit
set_option linter.unusedVariables false
set_option maxRecDepth 20000

theorem scan_back {sd : Nat} (hs : SideOk sd) {xs : List Int} (hl : xs.length = sd * sd) :
    scOk (sd : Int) xs = true ∧ scanL (sd : Int) xs = listF (sd * sd) (fun i => xs.getD (scF sd i) 0) ∧ scOk (sd : Int) (listF (sd * sd) (fun i => xs.getD (scF sd i) 0)) = true ∧ backL (sd : Int) (listF (sd * sd) (fun i => xs.getD (scF sd i) 0)) = xs := by
  have h1 : ∀ ys : List Int, ys.length = sd * sd → scOk (sd : Int) ys = true := fun ys hy => by
    unfold scOk
    rw [side_yes hs, Bool.true_and, decide_eq_true_eq, hy]
    exact Int.natCast_mul sd sd
  have h2 := h1 xs hl
  have h3 := h1 (listF (sd * sd) (fun i => xs.getD (scF sd i) 0)) (listF_length _ _)
  refine ⟨h2, ?_, h3, ?_⟩
  · unfold scanL
    rw [if_pos h2, hl, Int.toNat_natCast]
  · unfold backL
    rw [if_pos h3, listF_length, Int.toNat_natCast]
    have e := listF_self xs
    rw [hl] at e
    refine (listF_congr fun i hi => ?_).trans e
    obtain ⟨b1, b2⟩ := (bk_facts hs).2 i hi
    rw [listF_get _ b1, b2]
/-- The diagonal of the k-th place, and of the one ahead of it. -/
def dgF (sd k : Nat) : Nat := scF sd k / sd + scF sd k % sd
def lastF (sd k : Nat) : Nat := if k = 0 then 0 else dgF sd (k - 1)
theorem diag_facts {sd : Nat} (hs : SideOk sd) : ∀ k, k < sd * sd → lastF sd k ≤ dgF sd k ∧ dgF sd k ≤ lastF sd k + 1 ∧ dgF sd k ≤ 14 := by
  rcases hs with rfl | rfl
  · decide +kernel
  · decide +kernel
theorem infoT : (Try.prog.info? 4).map (fun i => (i.zero, i.size, i.bytes)) = some (some (.bool false), 1, 1) := by kernel_rfl
/-- Which places have been seen. -/
def seenL (sd n k : Nat) : List Value := (List.range n).map fun i => .bool (decide (bkF sd i < k))
theorem seen_set {sd : Nat} (hs : SideOk sd) (n k : Nat) (hk : k < sd * sd) : (seenL sd n k).set (scF sd k) (.bool true) = seenL sd n (k + 1) := by
  unfold seenL
  have e : Value.bool true = (fun i => Value.bool (decide (bkF sd i < k + 1))) (scF sd k) := by
    show Value.bool true = Value.bool (decide (bkF sd (scF sd k) < k + 1))
    rw [(bk_facts hs).1 k hk]
    simp
  rw [e]
  refine int_range_set n (scF sd k) (fun i => Value.bool (decide (bkF sd i < k))) (fun i => Value.bool (decide (bkF sd i < k + 1))) (fun i hi => ?_)
  have hne : bkF sd i ≠ k := fun h => hi (bk_iff hs hk h)
  have : decide (bkF sd i < k) = decide (bkF sd i < k + 1) := by
    by_cases h : bkF sd i < k
    · rw [decide_eq_true h, decide_eq_true (show bkF sd i < k + 1 by omega)]
    · rw [decide_eq_false h, decide_eq_false (show ¬ bkF sd i < k + 1 by omega)]
  show Value.bool _ = Value.bool _
  rw [this]
theorem seen_made (sd n : Nat) : (madeCells (Value.bool false).cells (n * 1)).toList = seenL sd n 0 := by
  unfold seenL
  rw [show (madeCells (Value.bool false).cells (n * 1)).toList = (List.range n).map (fun _ => Value.bool false) from ?_]
  · apply List.map_congr_left
    intro i _
    simp
  · rw [Nat.mul_one]
    apply List.ext_getElem?
    intro i
    simp [madeCells, Value.cells, Nat.mod_one]
theorem seen_at {sd : Nat} (hs : SideOk sd) {n k : Nat} (hk : k < sd * sd) (hp : scF sd k < n) : (seenL sd n k)[scF sd k]? = some (.bool false) := by
  unfold seenL
  rw [List.getElem?_map, List.getElem?_range hp]
  show some (Value.bool (decide (bkF sd (scF sd k) < k))) = _
  rw [(bk_facts hs).1 k hk]
  simp
end Go.Proofs.Ytknfcfbioabdnaa
