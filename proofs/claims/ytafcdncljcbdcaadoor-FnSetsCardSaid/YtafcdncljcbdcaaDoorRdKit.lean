/-
  A reader of sets in memory: the walks of impl's setReader.hold, taken, counted, fixed and flag, and of impl.setReaderAt.
-/
import Derived.Test.YtafcdncljcbdcaaDoorRdMath
import Derived.Test.YtafcdncljcbdcaaDoorFaultKit
import Derived.Maps.AppendAt
import Derived.Maps.Range
namespace Go.Proofs.YtafcdncljcbdcaaDoor
open Go.RowKit
set_option linter.unusedVariables false
set_option maxRecDepth 20000

theorem Blk.grown {w w' : World} {g : Nat} {cs : Array Value} {t : TypeId} {row : Option Nat} (h : Blk w g cs t) (hg : w.grownBy w' row) (hne : some g ≠ row) : Blk w' g cs t := (hg.block g h.lt hne).trans h
theorem grown_set (w : World) (g j : Nat) (v : Value) : w.grownBy (w.setCell ⟨g, j, none⟩ v) (some g) :=
  ⟨rfl, rfl, rfl, by simp, fun k hk hne => Below.heap_setCell w ⟨g, j, none⟩ v k (fun e => hne (by rw [e]))⟩
theorem grown_drew (w : World) (row : Option Nat) : w.grownBy w.drew row := ⟨rfl, rfl, rfl, Nat.le_refl _, fun _ _ _ => rfl⟩
theorem grown_of_below {w w' : World} (hb : Below w.heap.size w w') (row : Option Nat) : w.grownBy w' row := ⟨hb.os, hb.tape, hb.output, hb.size, fun k hk _ => hb.block k hk⟩
theorem below_grown {w w' : World} {g B : Nat} (h : w.grownBy w' (some g)) (hB : B ≤ g) (hw : B ≤ w.heap.size) : Below B w w' := ⟨h.os, h.tape, h.output, h.size, fun k hk => h.block k (by omega) (by intro e; cases e; omega)⟩
theorem ErrT.grown {w w' : World} {g : Nat} (h : ErrT w) (hg : w.grownBy w' (some g)) (hne : 0 < g) : ErrT w' := hg.cell h (by intro e; simp at e; omega)
theorem Ints.grown {w w' : World} {a : Option Addr} {xs : List Int} {g : Nat} (h : Ints w a xs) (hg : w.grownBy w' (some g)) (hq : ∀ p, a = some p → p.block ≠ g) : Ints w' a xs := by
  rcases h with h | ⟨b, off, rfl, hb, hc⟩
  · exact .inl h
  · exact .inr ⟨b, off, rfl, Nat.lt_of_lt_of_le hb hg.size, fun i hi => hg.cell (hc i hi) (by intro e; simp at e; exact hq _ rfl e)⟩

/-- The reader at the block g is in this state. -/
def Rd (w : World) (g : Nat) (s : ByteArray) (st : St) : Prop :=
  match st with
  | some p => Blk w g #[.string s, .int .i64 (p : Int), .nilIface] 74
  | none => ∃ p c : Int, c ≠ 0 ∧ Blk w g #[.string s, .int .i64 p, faultV c] 74
theorem Rd.lt {w : World} {g : Nat} {s : ByteArray} {st : St} (h : Rd w g s st) : g < w.heap.size := by
  cases st with
  | none => obtain ⟨_, _, _, h⟩ := h; exact Blk.lt h
  | some p => exact Blk.lt h
theorem Rd.grown {w w' : World} {g k : Nat} {s : ByteArray} {st : St} (h : Rd w g s st) (hg : w.grownBy w' (some k)) (hne : g ≠ k) : Rd w' g s st := by
  cases st with
  | none => obtain ⟨p, c, hc, h⟩ := h; exact ⟨p, c, hc, Blk.grown h hg (by intro e; cases e; exact hne rfl)⟩
  | some p => exact Blk.grown h hg (by intro e; cases e; exact hne rfl)
theorem Rd.below {w w' : World} {g B : Nat} {s : ByteArray} {st : St} (h : Rd w g s st) (hb : Below B w w') (hB : g < B) : Rd w' g s st := by
  cases st with
  | none => obtain ⟨p, c, hc, h⟩ := h; exact ⟨p, c, hc, Blk.below h hb hB⟩
  | some p => exact Blk.below h hb hB

theorem hold_fault (s : ByteArray) (p c : Int) (g : Nat) (w : World) (h : Blk w g #[.string s, .int .i64 p, .nilIface] 74) :
    Calls Tryd.prog 38 #[.pointer (some ⟨g, 0, none⟩), faultV c] w fun e w' => e = .returned (.tuple #[]) ∧ w' = w.setCell ⟨g, 2, none⟩ (faultV c) := by
  obtain ⟨⟨x0, x1, x2⟩, f0, f1, f2⟩ := h.three
  clear h
  go_enter Tryd.func38, Tryd.ntmps38
  go_wp2
  go_returns
  exact ⟨rfl, rfl⟩
theorem hold_nil (s : ByteArray) (p : Int) (g : Nat) (w : World) (h : Blk w g #[.string s, .int .i64 p, .nilIface] 74) :
    Calls Tryd.prog 38 #[.pointer (some ⟨g, 0, none⟩), .nilIface] w fun e w' => e = .returned (.tuple #[]) ∧ w' = w.setCell ⟨g, 2, none⟩ .nilIface := by
  obtain ⟨⟨x0, x1, x2⟩, f0, f1, f2⟩ := h.three
  clear h
  go_enter Tryd.func38, Tryd.ntmps38
  go_wp2
  go_returns
  exact ⟨rfl, rfl⟩
theorem hold_bad (s : ByteArray) (p c : Int) (g : Nat) (v : Value) (w : World) (h : Blk w g #[.string s, .int .i64 p, faultV c] 74) :
    Calls Tryd.prog 38 #[.pointer (some ⟨g, 0, none⟩), v] w fun e w' => e = .returned (.tuple #[]) ∧ w' = w := by
  obtain ⟨⟨x0, x1, x2⟩, f0, f1, f2⟩ := h.three
  clear h
  go_enter Tryd.func38, Tryd.ntmps38
  go_wp2
  go_returns
  exact ⟨rfl, rfl⟩

theorem taken_yes (s : ByteArray) (p n q : Int) (g : Nat) (w : World) (h : Blk w g #[.string s, .int .i64 p, .nilIface] 74) :
    Calls Tryd.prog 58 #[.pointer (some ⟨g, 0, none⟩), .int .i64 n, .int .i64 q, .bool true] w fun e w' => e = .returned (.int .i64 n) ∧ w' = w.setCell ⟨g, 1, none⟩ (.int .i64 q) := by
  obtain ⟨⟨x0, x1, x2⟩, f0, f1, f2⟩ := h.three
  clear h
  go_enter Tryd.func58, Tryd.ntmps58
  go_wp2
  go_ret
  exact ⟨rfl, rfl⟩
theorem taken_no (s : ByteArray) (p n q : Int) (g : Nat) (w : World) (h : Blk w g #[.string s, .int .i64 p, .nilIface] 74) :
    Calls Tryd.prog 58 #[.pointer (some ⟨g, 0, none⟩), .int .i64 n, .int .i64 q, .bool false] w fun e w' => e = .returned (.int .i64 0) ∧ w' = w.setCell ⟨g, 2, none⟩ (faultV 1) := by
  have H : Hid (Blk w g #[.string s, .int .i64 p, .nilIface] 74) := h
  clear h
  go_enter Tryd.func58, Tryd.ntmps58
  go_wp2_with (go_at_call 38; refine (hold_fault s p _ g _ H.out).mono ?_; rintro e w1 ⟨rfl, hw⟩; subst w1)
  go_ret
  exact ⟨rfl, rfl⟩

set_option maxHeartbeats 1600000 in
theorem counted_any (F : Nat → Option (Int × Nat)) (s : ByteArray) (g : Nat) (st : St) (w : World) (hF : IsCnt s F) (hr : rowOkB s = true ∨ st = none) (h : Rd w g s st) (hin : StIn s st) :
    Calls Tryd.prog 35 #[.pointer (some ⟨g, 0, none⟩)] w fun e w' => e = .returned (.int .i64 (cnt F st).1) ∧ Rd w' g s (cnt F st).2 ∧ w.grownBy w' (some g) := by
  cases st with
  | none =>
    obtain ⟨p, c, hc, h⟩ := h
    have HB : Hid (c ≠ 0 ∧ Blk w g #[.string s, .int .i64 p, faultV c] 74) := ⟨hc, h⟩
    obtain ⟨⟨x0, x1, x2⟩, f0, f1, f2⟩ := Blk.three h
    clear h hF hr hin hc
    go_enter Tryd.func35, Tryd.ntmps35
    go_wp2
    go_ret
    exact ⟨rfl, ⟨p, c, HB.out.1, HB.out.2⟩, World.grownBy.refl _ _⟩
  | some p =>
    have hr' : rowOkB s = true := by rcases hr with h | h; exact h; cases h
    have hp := hin p rfl
    have HB : Hid (Blk w.drew g #[.string s, .int .i64 (p : Int), .nilIface] 74) := h
    obtain ⟨⟨x0, x1, x2⟩, f0, f1, f2⟩ := Blk.three (show Blk w g #[.string s, .int .i64 (p : Int), .nilIface] 74 from h)
    cases e : F p with
    | none =>
      have hn := (hF p).2 e
      have HC : Hid (∀ w', Calls Tryd.prog 57 #[.int .i64 0, .string s, .int .i64 (p : Int)] w' fun e w'' => e = .returned (.tuple #[.int .i64 0, .int .i64 0, .bool false]) ∧ w'' = w') := fun w' => implReadAtNo 0 s p w' opens_ue_no hr' (by omega) hn
      have HV : Hid (cnt F (some p) = (0, none)) := by show _ = _; simp [cnt, e]
      clear h hF hr hin hn hr' hp e
      go_enter Tryd.func35, Tryd.ntmps35
      go_wp2_with fail
      go_region_held3 (fun w' => w'.cell? ⟨g, 0, none⟩ = some (.string s) ∧ w'.cell? ⟨g, 1, none⟩ = some (.int .i64 (p : Int))) (go_keep)
        ((go_at_call 57; refine (HC.out _).mono ?_; rintro e w1 ⟨rfl, hw⟩; subst w1))
      go_wp2_with (go_at_call 58; refine (taken_no s p _ _ g _ HB.out).mono ?_; rintro e w1 ⟨rfl, hw⟩)
      go_ret
      rw [HV.out]
      exact ⟨rfl, ⟨p, 1, by decide, HB.out.set 2 _ (by simp)⟩, (grown_drew w _).trans (grown_set _ _ _ _)⟩
    | some r =>
      obtain ⟨n, q⟩ := r
      obtain ⟨z, hc, hq⟩ := (hF p).1 n q e
      have HC : Hid (∀ w', Calls Tryd.prog 57 #[.int .i64 0, .string s, .int .i64 (p : Int)] w' fun e w'' => e = .returned (.tuple #[.int .i64 n, .int .i64 ((p : Int) + (z : Int) + ((z : Int) + 1)), .bool true]) ∧ w'' = w') := fun w' => implReadAt 0 (fun u => u) s p z n w' opens_ue hr' hc
      have HV : Hid (cnt F (some p) = (n, some q) ∧ (p : Int) + (z : Int) + ((z : Int) + 1) = (q : Int)) := ⟨by simp [cnt, e], by omega⟩
      clear h hF hr hin hr' hp e hc hq
      go_enter Tryd.func35, Tryd.ntmps35
      go_wp2_with fail
      go_region_held3 (fun w' => w'.cell? ⟨g, 0, none⟩ = some (.string s) ∧ w'.cell? ⟨g, 1, none⟩ = some (.int .i64 (p : Int))) (go_keep)
        ((go_at_call 57; refine (HC.out _).mono ?_; rintro e w1 ⟨rfl, hw⟩; subst w1))
      go_wp2_with (go_at_call 58; refine (taken_yes s p _ _ g _ HB.out).mono ?_; rintro e w1 ⟨rfl, hw⟩)
      go_ret
      rw [HV.out.1, HV.out.2]
      exact ⟨rfl, HB.out.set 1 _ (by simp), (grown_drew w _).trans (grown_set _ _ _ _)⟩

set_option maxHeartbeats 1600000 in
theorem fixed_any (s : ByteArray) (k g : Nat) (st : St) (w : World) (hk : (k : Int) ≤ 30) (hr : rowOkB s = true ∨ st = none) (h : Rd w g s st) (hin : StIn s st) :
    Calls Tryd.prog 36 #[.pointer (some ⟨g, 0, none⟩), .int .i64 (k : Int)] w fun e w' => e = .returned (.int .i64 (fixR s k st).1) ∧ Rd w' g s (fixR s k st).2 ∧ w.grownBy w' (some g) := by
  cases st with
  | none =>
    obtain ⟨p, c, hc, h⟩ := h
    have HB : Hid (c ≠ 0 ∧ Blk w g #[.string s, .int .i64 p, faultV c] 74) := ⟨hc, h⟩
    obtain ⟨⟨x0, x1, x2⟩, f0, f1, f2⟩ := Blk.three h
    clear h hr hin hc
    go_enter Tryd.func36, Tryd.ntmps36
    go_wp2
    go_ret
    exact ⟨rfl, ⟨p, c, HB.out.1, HB.out.2⟩, World.grownBy.refl _ _⟩
  | some p =>
    have hr' : rowOkB s = true := by rcases hr with h | h; exact h; cases h
    have h4 := (rowOkB_true s hr').1
    have hp := hin p rfl
    have HB : Hid (Blk w.drew g #[.string s, .int .i64 (p : Int), .nilIface] 74) := h
    obtain ⟨⟨x0, x1, x2⟩, f0, f1, f2⟩ := Blk.three (show Blk w g #[.string s, .int .i64 (p : Int), .nilIface] 74 from h)
    by_cases e : p + k ≤ s.size
    · have HC : Hid (∀ w', Calls Tryd.prog 59 #[.string s, .int .i64 (p : Int), .int .i64 (k : Int)] w' fun e w'' => e = .returned (.tuple #[.int .i64 (readN s p k), .int .i64 ((p : Int) + (k : Int)), .bool true]) ∧ w'' = w') := fun w' => implAt s p k w' hr' hk (by omega)
      have HV : Hid (fixR s k (some p) = (readN s p k, some (p + k)) ∧ (p : Int) + (k : Int) = ((p + k : Nat) : Int)) := ⟨by simp [fixR, e], by omega⟩
      clear h hr hin hr' hp e h4
      go_enter Tryd.func36, Tryd.ntmps36
      go_wp2_with fail
      go_region_held3 (fun w' => w'.cell? ⟨g, 0, none⟩ = some (.string s) ∧ w'.cell? ⟨g, 1, none⟩ = some (.int .i64 (p : Int))) (go_keep)
        ((go_at_call 59; refine (HC.out _).mono ?_; rintro e w1 ⟨rfl, hw⟩; subst w1))
      go_wp2_with (go_at_call 58; refine (taken_yes s p _ _ g _ HB.out).mono ?_; rintro e w1 ⟨rfl, hw⟩)
      go_ret
      rw [HV.out.1, HV.out.2]
      exact ⟨rfl, HB.out.set 1 _ (by simp), (grown_drew w _).trans (grown_set _ _ _ _)⟩
    · have HC : Hid (∀ w', Calls Tryd.prog 59 #[.string s, .int .i64 (p : Int), .int .i64 (k : Int)] w' fun e w'' => e = .returned (.tuple #[.int .i64 0, .int .i64 0, .bool false]) ∧ w'' = w') := fun w' => implAtNo s p k w' (by omega) (by omega) (by omega) (by omega)
      have HV : Hid (fixR s k (some p) = (0, none)) := by show _ = _; simp [fixR, e]
      clear h hr hin hr' hp e h4
      go_enter Tryd.func36, Tryd.ntmps36
      go_wp2_with fail
      go_region_held3 (fun w' => w'.cell? ⟨g, 0, none⟩ = some (.string s) ∧ w'.cell? ⟨g, 1, none⟩ = some (.int .i64 (p : Int))) (go_keep)
        ((go_at_call 59; refine (HC.out _).mono ?_; rintro e w1 ⟨rfl, hw⟩; subst w1))
      go_wp2_with (go_at_call 58; refine (taken_no s p _ _ g _ HB.out).mono ?_; rintro e w1 ⟨rfl, hw⟩)
      go_ret
      rw [HV.out]
      exact ⟨rfl, ⟨p, 1, by decide, HB.out.set 2 _ (by simp)⟩, (grown_drew w _).trans (grown_set _ _ _ _)⟩

/-- The state that a reader begins with. -/
def st0 (s : ByteArray) (a : Int) : St := if placeB s a = true then some a.toNat else none
theorem st0_in (s : ByteArray) (a : Int) : StIn s (st0 s a) := by
  intro p h
  unfold st0 at h
  split at h
  · rename_i hp
    obtain ⟨h0, h1, _⟩ := placeB_true s a hp
    cases h; omega
  · cases h
theorem st0_ok (s : ByteArray) (a : Int) : rowOkB s = true ∨ st0 s a = none := by
  unfold st0
  split
  · rename_i hp; exact .inl (placeB_true s a hp).2.2
  · exact .inr rfl

set_option maxHeartbeats 800000 in
theorem readerAt_any (s : ByteArray) (a : Int) (w : World) (hm : s.size ≤ maxLen) :
    Calls Tryd.prog 34 #[.string s, .int .i64 a] w fun e w' => e = .returned (.pointer (some ⟨w.heap.size, 0, none⟩)) ∧ Rd w' w.heap.size s (st0 s a) ∧ Below w.heap.size w w' := by
  have HB : Hid (Blk (w.alloc (.cells #[.string s, .int .i64 a, .nilIface] 74)) w.heap.size #[.string s, .int .i64 a, .nilIface] 74) := Blk.new w _ _
  have HP : Hid (∀ w', Calls Tryd.prog 56 #[.string s, .int .i64 a] w' fun e w'' => e = .returned (.bool (placeB s a)) ∧ w'' = w') := fun w' => implPlace s a w' hm
  have HT : Hid (placeB s a = true → 0 ≤ a) := fun h => (placeB_true s a h).1
  have HS : Hid (st0 s a = if placeB s a = true then some a.toNat else none) := rfl
  generalize placeB s a = pb at *
  cases pb with
  | true =>
    go_enter Tryd.func34, Tryd.ntmps34
    go_wp2_with (go_at_call 56; refine (HP.out _).mono ?_; rintro e w1 ⟨rfl, hw⟩; subst w1)
    go_ret
    refine ⟨rfl, ?_, by go_grown⟩
    rw [HS.out, if_pos trivial]
    show Blk _ _ #[.string s, .int .i64 (a.toNat : Int), .nilIface] _
    rw [Int.toNat_of_nonneg (HT.out trivial)]
    exact HB.out
  | false =>
    go_enter Tryd.func34, Tryd.ntmps34
    go_wp2_with (first
      | (go_at_call 56; refine (HP.out _).mono ?_; rintro e w1 ⟨rfl, hw⟩; subst w1)
      | (go_at_call 38; refine (hold_fault s a _ _ _ HB.out).mono ?_; rintro e w1 ⟨rfl, hw⟩))
    go_ret
    refine ⟨rfl, ?_, by go_grown⟩
    rw [HS.out, if_neg (by simp)]
    exact ⟨a, 1, by decide, Blk.new w _ _⟩
end Go.Proofs.YtafcdncljcbdcaaDoor
