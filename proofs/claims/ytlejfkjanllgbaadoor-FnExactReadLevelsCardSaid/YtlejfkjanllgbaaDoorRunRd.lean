/-
  Reading runs off a row: what comes, round by round; behind the first fault all is none.
-/
import Derived.Test.YtlejfkjanllgbaaDoorCountReads
import Derived.Test.YtlejfkjanllgbaaDoorRunMath
namespace Go.Proofs.YtlejfkjanllgbaaDoor
open Go.RowKit
set_option linter.unusedVariables false
set_option maxRecDepth 20000

/-- F tells the counted number at each place, and the place behind it. -/
def IsCnt (s : ByteArray) (F : Nat → Option (Int × Nat)) : Prop :=
  ∀ p, (∀ n q, F p = some (n, q) → ∃ z, Counted s p z n ∧ q = p + z + (z + 1)) ∧ (F p = none → CountedNot s p)
theorem isCnt_exists (s : ByteArray) : ∃ F, IsCnt s F := by
  have h : ∀ p, ∃ r : Option (Int × Nat), (∀ n q, r = some (n, q) → ∃ z, Counted s p z n ∧ q = p + z + (z + 1)) ∧ (r = none → CountedNot s p) := fun p => by
    by_cases h : ∃ z n, Counted s p z n
    · obtain ⟨z, n, hc⟩ := h
      exact ⟨some (n, p + z + (z + 1)), (fun n' q e => by cases e; exact ⟨z, hc, rfl⟩), fun e => by cases e⟩
    · exact ⟨none, (fun n q e => by cases e), fun _ z n hc => h ⟨z, n, hc⟩⟩
  exact ⟨fun p => Classical.choose (h p), fun p => Classical.choose_spec (h p)⟩
theorem IsCnt.of {s : ByteArray} {F : Nat → Option (Int × Nat)} (h : IsCnt s F) {p z : Nat} {n : Int} (hc : Counted s p z n) : F p = some (n, p + z + (z + 1)) := by
  cases e : F p with
  | none => exact absurd hc ((h p).2 e z n)
  | some r =>
    obtain ⟨m, q⟩ := r
    obtain ⟨y, hy, rfl⟩ := (h p).1 m q e
    obtain ⟨rfl, rfl⟩ := hy.uniq hc
    rfl
theorem IsCnt.bd {s : ByteArray} {F : Nat → Option (Int × Nat)} (h : IsCnt s F) (hr : rowOkB s = true) {p q : Nat} {n : Int} (e : F p = some (n, q)) : 0 ≤ n ∧ n ≤ 1000000 ∧ q ≤ s.size := by
  obtain ⟨z, hc, rfl⟩ := (h p).1 n q e
  exact ⟨hc.low hr, hc.top, hc.fits⟩

/-- Whether a level may stand in a row of runs. -/
def levB (x : Int) : Bool := !(decide (x = 0)) && (decide (-5000 ≤ x) && decide (x ≤ 5000))
/-- The run at a place: its noughts, its level and the place behind it. -/
def oneR (F : Nat → Option (Int × Nat)) (p : Nat) : Option (Nat × Int × Nat) :=
  match F p with
  | none => none
  | some (z, q) => match F q with
    | none => none
    | some (u, e) => if levB (seO u) = true then some (z.toNat, seO u, e) else none
theorem oneR_none {F : Nat → Option (Int × Nat)} {p : Nat} (h : F p = none) : oneR F p = none := by unfold oneR; rw [h]
theorem oneR_second {F : Nat → Option (Int × Nat)} {p q : Nat} {z : Int} (h : F p = some (z, q)) (h2 : F q = none) : oneR F p = none := by unfold oneR; rw [h]; simp only [h2]
theorem oneR_bad {F : Nat → Option (Int × Nat)} {p q e : Nat} {z u : Int} (h : F p = some (z, q)) (h2 : F q = some (u, e)) (h3 : levB (seO u) = false) : oneR F p = none := by unfold oneR; rw [h]; simp only [h2]; rw [if_neg (by rw [h3]; decide)]
theorem oneR_some {F : Nat → Option (Int × Nat)} {p q e : Nat} {z u : Int} (h : F p = some (z, q)) (h2 : F q = some (u, e)) (h3 : levB (seO u) = true) : oneR F p = some (z.toNat, seO u, e) := by unfold oneR; rw [h]; simp only [h2]; rw [if_pos h3]

/-- What has been read: the numbers, how many places are filled, the place in the row. -/
abbrev RSt := Option ((Nat → Int) × Nat × Nat)
def updF (g : Nat → Int) (i : Nat) (x : Int) : Nat → Int := fun j => if j = i then x else g j
def stepR (F : Nat → Option (Int × Nat)) (n : Nat) : RSt → RSt
  | none => none
  | some (g, k, p) => match oneR F p with
    | none => none
    | some (z, x, e) => if n ≤ k + z then none else some (updF g (k + z) x, k + z + 1, e)
def iterR (F : Nat → Option (Int × Nat)) (n p : Nat) : Nat → RSt
  | 0 => some (fun _ => 0, 0, p)
  | j + 1 => stepR F n (iterR F n p j)
theorem step_fault {F : Nat → Option (Int × Nat)} {n p k : Nat} {g : Nat → Int} (h : oneR F p = none) : stepR F n (some (g, k, p)) = none := by unfold stepR; simp only [h]
theorem step_far {F : Nat → Option (Int × Nat)} {n p k z e : Nat} {x : Int} {g : Nat → Int} (h : oneR F p = some (z, x, e)) (h2 : n ≤ k + z) : stepR F n (some (g, k, p)) = none := by unfold stepR; simp only [h]; rw [if_pos h2]
theorem step_on {F : Nat → Option (Int × Nat)} {n p k z e : Nat} {x : Int} {g : Nat → Int} (h : oneR F p = some (z, x, e)) (h2 : ¬ n ≤ k + z) : stepR F n (some (g, k, p)) = some (updF g (k + z) x, k + z + 1, e) := by unfold stepR; simp only [h]; rw [if_neg h2]
/-- A first number that is too great ends the reading, whatever stands behind it. -/
theorem step_over {F : Nat → Option (Int × Nat)} {n p k q : Nat} {z : Int} {g : Nat → Int} (h : F p = some (z, q)) (h2 : n ≤ k + z.toNat) : stepR F n (some (g, k, p)) = none := by
  cases h3 : F q with
  | none => exact step_fault (oneR_second h h3)
  | some r =>
    obtain ⟨u, e⟩ := r
    cases h4 : levB (seO u) with
    | true => exact step_far (oneR_some h h3 h4) h2
    | false => exact step_fault (oneR_bad h h3 h4)
theorem iterR_stays {F : Nat → Option (Int × Nat)} {n p j : Nat} (h : iterR F n p j = none) : ∀ m, j ≤ m → iterR F n p m = none := by
  intro m hm
  induction m with
  | zero => rw [show j = 0 by omega] at h; exact h
  | succ m ih =>
    by_cases he : j = m + 1
    · rw [← he]; exact h
    · show stepR F n (iterR F n p m) = none
      rw [ih (by omega)]
      rfl
theorem oneR_end {s : ByteArray} {F : Nat → Option (Int × Nat)} (hF : IsCnt s F) (hr : rowOkB s = true) {p z e : Nat} {x : Int} (h : oneR F p = some (z, x, e)) : e ≤ s.size ∧ z ≤ 1000000 ∧ levB x = true := by
  unfold oneR at h
  cases h1 : F p with
  | none => rw [h1] at h; cases h
  | some r =>
    obtain ⟨y, q⟩ := r
    rw [h1] at h
    simp only at h
    cases h2 : F q with
    | none => rw [h2] at h; cases h
    | some r2 =>
      obtain ⟨u, e2⟩ := r2
      rw [h2] at h
      simp only at h
      split at h
      · rename_i h3
        cases h
        have b1 := hF.bd hr h1
        have b2 := hF.bd hr h2
        exact ⟨b2.2.2, by omega, h3⟩
      · cases h
theorem iterR_bd {s : ByteArray} {F : Nat → Option (Int × Nat)} (hF : IsCnt s F) (hr : rowOkB s = true) {n p : Nat} (hp : p ≤ s.size) : ∀ j g k q, iterR F n p j = some (g, k, q) → j ≤ k ∧ k ≤ n ∧ q ≤ s.size
  | 0, g, k, q, h => by cases h; exact ⟨Nat.le_refl _, Nat.zero_le _, hp⟩
  | j + 1, g, k, q, h => by
    change stepR F n (iterR F n p j) = some (g, k, q) at h
    cases h1 : iterR F n p j with
    | none => rw [h1] at h; cases h
    | some st =>
      obtain ⟨g1, k1, q1⟩ := st
      have ih := iterR_bd hF hr hp j g1 k1 q1 h1
      rw [h1] at h
      cases h2 : oneR F q1 with
      | none => rw [step_fault h2] at h; cases h
      | some r =>
        obtain ⟨z, x, e⟩ := r
        by_cases h3 : n ≤ k1 + z
        · rw [step_far h2 h3] at h; cases h
        · rw [step_on h2 h3] at h
          cases h
          have := oneR_end hF hr h2
          omega
theorem iterR_over {s : ByteArray} {F : Nat → Option (Int × Nat)} (hF : IsCnt s F) (hr : rowOkB s = true) {n p : Nat} (hp : p ≤ s.size) {m : Nat} (h : n < m) : iterR F n p m = none := by
  cases h1 : iterR F n p m with
  | none => rfl
  | some st =>
    obtain ⟨g, k, q⟩ := st
    have := iterR_bd hF hr hp m g k q h1
    omega

/-- What is read in all: the state behind as many rounds as the first number tells. -/
def readR (F : Nat → Option (Int × Nat)) (n p : Nat) : RSt :=
  match F p with
  | none => none
  | some (m, q) => iterR F n q m.toNat
theorem readR_none {F : Nat → Option (Int × Nat)} {n p : Nat} (h : F p = none) : readR F n p = none := by unfold readR; rw [h]
theorem readR_some {F : Nat → Option (Int × Nat)} {n p q : Nat} {m : Int} (h : F p = some (m, q)) : readR F n p = iterR F n q m.toNat := by unfold readR; rw [h]
def ansL (n : Nat) (st : RSt) : List Int := match st with | none => [] | some (g, _, _) => listF n g
def ansE (st : RSt) : Int := match st with | none => 0 | some (_, _, e) => (e : Int)
def ansY (st : RSt) : Bool := match st with | none => false | some _ => true
theorem upd_set (g : Nat → Int) (n i : Nat) (x : Int) : ((listF n g).map (Value.int .i64)).set i (.int .i64 x) = (listF n (updF g i x)).map (Value.int .i64) := by
  unfold listF
  rw [List.map_map, List.map_map]
  have e : Value.int .i64 x = (Value.int .i64 ∘ updF g i x) i := by simp [updF]
  rw [e]
  refine int_range_set n i _ _ (fun j hj => ?_)
  simp [Function.comp, updF, hj]
theorem none_made (n : Nat) : (madeCells (Value.int .i64 0).cells (n * 1)).toList = (listF n (fun _ => 0)).map (Value.int .i64) := by
  rw [int_made]
  unfold listF
  rw [List.map_map]
  rfl

/-! ### What the readers of one number answer, over F -/
theorem specUeF {s : ByteArray} {F : Nat → Option (Int × Nat)} (hF : IsCnt s F) (hr : rowOkB s = true) {p q : Nat} {n : Int} (w : World) (h : F p = some (n, q)) :
    Calls Tryd.prog 94 #[.string s, .int .i64 (p : Int)] w fun e w' => e = .returned (.tuple #[.int .i64 n, .int .i64 (q : Int), .bool true]) ∧ w' = w := by
  obtain ⟨z, hc, rfl⟩ := (hF p).1 n q h
  have := specReadAt s p z n w hr hc
  rwa [show ((p : Int) + (z : Int) + ((z : Int) + 1)) = ((p + z + (z + 1) : Nat) : Int) by omega] at this
theorem specUeF_no {s : ByteArray} {F : Nat → Option (Int × Nat)} (hF : IsCnt s F) (hr : rowOkB s = true) {p : Nat} (w : World) (hp : p ≤ s.size) (h : F p = none) :
    Calls Tryd.prog 94 #[.string s, .int .i64 (p : Int)] w fun e w' => e = .returned (.tuple #[.int .i64 0, .int .i64 0, .bool false]) ∧ w' = w :=
  specReadAtNo s p w hr (by omega) ((hF p).2 h)
theorem specSeF {s : ByteArray} {F : Nat → Option (Int × Nat)} (hF : IsCnt s F) (hr : rowOkB s = true) {p q : Nat} {n : Int} (w : World) (h : F p = some (n, q)) :
    Calls Tryd.prog 95 #[.string s, .int .i64 (p : Int)] w fun e w' => e = .returned (.tuple #[.int .i64 (seO n), .int .i64 (q : Int), .bool true]) ∧ w' = w := by
  obtain ⟨z, hc, rfl⟩ := (hF p).1 n q h
  have := specSeAt s p z n w hr hc
  rwa [show ((p : Int) + (z : Int) + ((z : Int) + 1)) = ((p + z + (z + 1) : Nat) : Int) by omega] at this
theorem specSeF_no {s : ByteArray} {F : Nat → Option (Int × Nat)} (hF : IsCnt s F) (hr : rowOkB s = true) {p : Nat} (w : World) (hp : p ≤ s.size) (h : F p = none) :
    Calls Tryd.prog 95 #[.string s, .int .i64 (p : Int)] w fun e w' => e = .returned (.tuple #[.int .i64 0, .int .i64 0, .bool false]) ∧ w' = w :=
  specSeAtNo s p w hr (by omega) ((hF p).2 h)
theorem implUeF {s : ByteArray} {F : Nat → Option (Int × Nat)} (hF : IsCnt s F) (hr : rowOkB s = true) {p q : Nat} {n : Int} (w : World) (h : F p = some (n, q)) :
    Calls Tryd.prog 96 #[.int .i64 0, .string s, .int .i64 (p : Int)] w fun e w' => e = .returned (.tuple #[.int .i64 n, .int .i64 (q : Int), .bool true]) ∧ w' = w := by
  obtain ⟨z, hc, rfl⟩ := (hF p).1 n q h
  have := implReadAt 0 (fun u => u) s p z n w opens_ue hr hc
  rwa [show ((p : Int) + (z : Int) + ((z : Int) + 1)) = ((p + z + (z + 1) : Nat) : Int) by omega] at this
theorem implUeF_no {s : ByteArray} {F : Nat → Option (Int × Nat)} (hF : IsCnt s F) (hr : rowOkB s = true) {p : Nat} (w : World) (hp : p ≤ s.size) (h : F p = none) :
    Calls Tryd.prog 96 #[.int .i64 0, .string s, .int .i64 (p : Int)] w fun e w' => e = .returned (.tuple #[.int .i64 0, .int .i64 0, .bool false]) ∧ w' = w :=
  implReadAtNo 0 s p w opens_ue_no hr (by omega) ((hF p).2 h)
theorem implSeF {s : ByteArray} {F : Nat → Option (Int × Nat)} (hF : IsCnt s F) (hr : rowOkB s = true) {p q : Nat} {n : Int} (w : World) (h : F p = some (n, q)) :
    Calls Tryd.prog 96 #[.int .i64 1, .string s, .int .i64 (p : Int)] w fun e w' => e = .returned (.tuple #[.int .i64 (seO n), .int .i64 (q : Int), .bool true]) ∧ w' = w := by
  obtain ⟨z, hc, rfl⟩ := (hF p).1 n q h
  have := implReadAt 1 seO s p z n w opens_se hr hc
  rwa [show ((p : Int) + (z : Int) + ((z : Int) + 1)) = ((p + z + (z + 1) : Nat) : Int) by omega] at this
theorem implSeF_no {s : ByteArray} {F : Nat → Option (Int × Nat)} (hF : IsCnt s F) (hr : rowOkB s = true) {p : Nat} (w : World) (hp : p ≤ s.size) (h : F p = none) :
    Calls Tryd.prog 96 #[.int .i64 1, .string s, .int .i64 (p : Int)] w fun e w' => e = .returned (.tuple #[.int .i64 0, .int .i64 0, .bool false]) ∧ w' = w :=
  implReadAtNo 1 s p w opens_se_no hr (by omega) ((hF p).2 h)
end Go.Proofs.YtlejfkjanllgbaaDoor
