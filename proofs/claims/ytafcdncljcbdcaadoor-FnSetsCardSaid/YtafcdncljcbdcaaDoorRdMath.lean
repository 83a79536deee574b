/-
  Reading sets off a row: what is read, place by place; behind the first fault all is 0.
-/
import Derived.Test.YtafcdncljcbdcaaDoorCountBack
import Derived.Test.YtafcdncljcbdcaaDoorSetMath
namespace Go.Proofs.YtafcdncljcbdcaaDoor
open Go.RowKit
set_option linter.unusedVariables false
set_option maxRecDepth 20000

theorem opens_ue : Opens 0 (fun u => u) := fun u w h0 h1 => implSame u w ⟨h0, h1⟩
theorem opens_ue_no : OpensNot 0 := fun u w h => implSame_no u w (.inr h)
theorem Counted.low {s : ByteArray} {a z : Nat} {n : Int} (hc : Counted s a z n) (hr : rowOkB s = true) : 0 ≤ n := by
  have hrow := (rowOkB_true s hr).2
  have h1 := readN_first s (a + z) hc.first.one z (by have := hc.fits; omega) hrow
  have hp : (1 : Int) ≤ 2 ^ z := Int.pow_pos (by decide)
  have := hc.num
  omega

/-- F tells the counted number at each place, and the place behind it. -/
def IsCnt (s : ByteArray) (F : Nat → Option (Int × Nat)) : Prop :=
  ∀ p, (∀ n q, F p = some (n, q) → ∃ z, Counted s p z n ∧ q = p + z + (z + 1)) ∧ (F p = none → CountedNot s p)
theorem isCnt_exists (s : ByteArray) : ∃ F, IsCnt s F := by
  have h : ∀ p, ∃ r : Option (Int × Nat), (∀ n q, r = some (n, q) → ∃ z, Counted s p z n ∧ q = p + z + (z + 1)) ∧ (r = none → CountedNot s p) := fun p => by
    by_cases h : ∃ z n, Counted s p z n
    · obtain ⟨z, n, hc⟩ := h
      exact ⟨some (n, p + z + (z + 1)), (fun n' q e => by cases e; exact ⟨z, hc, rfl⟩), fun e => by cases e⟩
    · exact ⟨none, (fun n q e => by cases e), fun _ z n hc => h ⟨z, n, hc⟩⟩
  exact ⟨fun p => Classical.choose (h p), fun p => Classical.choose_spec (h p)⟩
theorem IsCnt.of {s : ByteArray} {F : Nat → Option (Int × Nat)} (h : IsCnt s F) {p z : Nat} {n : Int} (hc : Counted s p z n) : F p = some (n, p + z + (z + 1)) := by
  cases e : F p with
  | none => exact absurd hc ((h p).2 e z n)
  | some r =>
    obtain ⟨m, q⟩ := r
    obtain ⟨y, hy, rfl⟩ := (h p).1 m q e
    obtain ⟨rfl, rfl⟩ := hy.uniq hc
    rfl

/-- A state of a reader: the place, or none behind a fault. -/
abbrev St := Option Nat
def cnt (F : Nat → Option (Int × Nat)) (st : St) : Int × St :=
  match st with
  | none => (0, none)
  | some p => match F p with | some (n, q) => (n, some q) | none => (0, none)
def fixR (s : ByteArray) (k : Nat) (st : St) : Int × St :=
  match st with
  | none => (0, none)
  | some p => if p + k ≤ s.size then (readN s p k, some (p + k)) else (0, none)
/-- The state behind j counted numbers, and the j-th of them. -/
def stA (F : Nat → Option (Int × Nat)) (st : St) : Nat → St
  | 0 => st
  | j + 1 => (cnt F (stA F st j)).2
def valA (F : Nat → Option (Int × Nat)) (st : St) (j : Nat) : Int := (cnt F (stA F st j)).1
def lst (F : Nat → Option (Int × Nat)) (st : St) : List Int × St :=
  if 4 < (cnt F st).1 then ([], none) else ((List.range (cnt F st).1.toNat).map (valA F (cnt F st).2), stA F (cnt F st).2 (cnt F st).1.toNat)
/-- A state keeps within the row. -/
def StIn (s : ByteArray) (st : St) : Prop := ∀ p, st = some p → p ≤ s.size
theorem stIn_none (s : ByteArray) : StIn s none := fun p h => by cases h
theorem cnt_in {s : ByteArray} {F : Nat → Option (Int × Nat)} (hF : IsCnt s F) (st : St) : StIn s (cnt F st).2 := by
  unfold cnt
  cases st with
  | none => exact stIn_none s
  | some p =>
    cases e : F p with
    | none => simp only [e]; exact stIn_none s
    | some r =>
      obtain ⟨n, q⟩ := r
      obtain ⟨z, hc, rfl⟩ := (hF p).1 n q e
      simp only [e]
      intro p' h; cases h; exact hc.fits
theorem fixR_in (s : ByteArray) (k : Nat) (st : St) : StIn s (fixR s k st).2 := by
  unfold fixR
  cases st with
  | none => exact stIn_none s
  | some p =>
    simp only
    split
    · intro p' h; cases h; assumption
    · exact stIn_none s
theorem cnt_bd {s : ByteArray} {F : Nat → Option (Int × Nat)} (hF : IsCnt s F) (hr : rowOkB s = true) (st : St) : 0 ≤ (cnt F st).1 ∧ (cnt F st).1 ≤ 1000000 := by
  unfold cnt
  cases st with
  | none => simp
  | some p =>
    cases e : F p with
    | none => simp only [e]; omega
    | some r =>
      obtain ⟨n, q⟩ := r
      obtain ⟨z, hc, rfl⟩ := (hF p).1 n q e
      simp only [e]
      exact ⟨hc.low hr, hc.top⟩
theorem cnt_none (F : Nat → Option (Int × Nat)) : cnt F none = (0, none) := rfl
theorem stA_none (F : Nat → Option (Int × Nat)) : ∀ j, stA F none j = none
  | 0 => rfl
  | j + 1 => by rw [stA, stA_none F j]; rfl
theorem stA_in {s : ByteArray} {F : Nat → Option (Int × Nat)} (hF : IsCnt s F) (st : St) (h : StIn s st) : ∀ j, StIn s (stA F st j)
  | 0 => h
  | j + 1 => cnt_in hF _
theorem lst_none (F : Nat → Option (Int × Nat)) : lst F none = ([], none) := rfl
theorem lst_in {s : ByteArray} {F : Nat → Option (Int × Nat)} (hF : IsCnt s F) (st : St) : StIn s (lst F st).2 := by
  unfold lst
  split
  · exact stIn_none s
  · exact stA_in hF _ (cnt_in hF st) _
theorem lst_len (F : Nat → Option (Int × Nat)) (st : St) : (lst F st).1.length ≤ 4 := by
  unfold lst
  split
  · simp
  · simp; omega
/-- A set that was read: its numbers, and the state behind it. -/
def rdL (F : Nat → Option (Int × Nat)) (st : St) : Int := (cnt F st).1
def rdB (F : Nat → Option (Int × Nat)) (s : ByteArray) (st : St) : Int := (fixR s 4 (cnt F st).2).1
def rdX (F : Nat → Option (Int × Nat)) (s : ByteArray) (st : St) : List Int := (lst F (fixR s 4 (cnt F st).2).2).1
def rdY (F : Nat → Option (Int × Nat)) (s : ByteArray) (st : St) : List Int := (lst F (lst F (fixR s 4 (cnt F st).2).2).2).1
def rdE (F : Nat → Option (Int × Nat)) (s : ByteArray) (st : St) : St := (lst F (lst F (fixR s 4 (cnt F st).2).2).2).2
theorem rdE_none (F : Nat → Option (Int × Nat)) (s : ByteArray) : rdE F s none = none := rfl
end Go.Proofs.YtafcdncljcbdcaaDoor
