/-
  Faults of sets: the walks of impl.setCodeOf, LevelSquares of both, impl.seqFault and SeqOk of both.
  The walks of SizeOf and TilesOf, of both.
  What blocks and rows keep where one block of the world grows.
-/
import Derived.Test.YtdokmojifkggjaaDoorAsKit
import Derived.Test.YtdokmojifkggjaaDoorSetSquares
import Derived.Test.YtdokmojifkggjaaDoorBlkKit
import Derived.Test.YtdokmojifkggjaaDoorMSetMath
import Derived.Maps.AppendAt
import Derived.Maps.Range
namespace Go.Proofs.YtdokmojifkggjaaDoor
open Go.RowKit
set_option linter.unusedVariables false
set_option maxRecDepth 20000

/-- The library's variable that errors.As reads holds the handle of the type 'error'. -/
def ErrT (w : World) : Prop := w.cell? ⟨0, 0, none⟩ = some (.iface 147 (.agg #[.pointer (some ⟨2, 96, none⟩)]))
theorem ErrT.lt {w : World} (h : ErrT w) : 0 < w.heap.size := World.block_lt_of_cell? w _ h
theorem ErrT.below {w w' : World} {B : Nat} (h : ErrT w) (hb : Below B w w') (hB : w.heap.size ≤ B) : ErrT w' := (hb.cell (p := ⟨0, 0, none⟩) (Nat.lt_of_lt_of_le h.lt hB)).trans h
/-- A fault with its code. -/
abbrev faultV (c : Int) : Value := .iface 110 (.agg #[.int .i64 c])

theorem code_nil (w : World) : Calls Tryd.prog 66 #[.nilIface] w fun e w' => e = .returned (.int .i64 0) ∧ Below w.heap.size w w' := by
  go_enter Tryd.func66, Tryd.ntmps66
  go_wp2_with (go_at_call 79; refine (as_nil _ _).mono ?_; rintro e w1 ⟨rfl, hw⟩; subst w1)
  go_ret
  exact ⟨rfl, by go_grown⟩
set_option maxHeartbeats 800000 in
theorem code_hit (c : Int) (w : World) (hg : ErrT w) : Calls Tryd.prog 66 #[faultV c] w fun e w' => e = .returned (.int .i64 c) ∧ Below w.heap.size w w' := by
  have HE : Hid (ErrT (w.alloc (.cells #[.int .i64 0] 110))) := hg.below ((Below.refl w.heap.size w).alloc (Nat.le_refl _) _) (Nat.le_refl _)
  clear hg
  go_enter Tryd.func66, Tryd.ntmps66
  go_wp2_with fail
  refine (as_hit (.int .i64 c) (.int .i64 0) w.heap.size _ rfl HE.out (by simp) (by simp)).mono ?_
  rintro e w1 ⟨rfl, hw⟩
  have h0 : w1.cell? ⟨w.heap.size, 0, none⟩ = some (.int .i64 c) := by
    rw [hw]
    refine World.cell?_setCell_same _ _ _ (u := .int .i64 0) ?_
    rw [World.cell?_alloc_lt _ _ _ (by simp; omega), World.cell?_alloc_lt _ _ _ (by simp; omega), World.cell?_alloc_lt _ _ _ (by simp; omega), World.cell?_alloc_lt _ _ _ (by simp)]
    simp
  have hb : Below w.heap.size w w1 := by rw [hw]; go_grown
  clear hw
  go_wp2
  go_ret
  exact ⟨rfl, hb⟩

theorem implLevel (l : Int) (w : World) : Calls Tryd.prog 81 #[.int .i64 l] w fun e w' => e = .returned (.int .i64 (lvlI l)) ∧ w' = w := by
  rcases (show l = 1 ∨ l = 2 ∨ l = 3 ∨ (l ≠ 1 ∧ l ≠ 2 ∧ l ≠ 3) by omega) with rfl | rfl | rfl | ⟨h1, h2, h3⟩
  all_goals
    go_enter Tryd.func81, Tryd.ntmps81
    go_wp2
    all_goals go_ret
    all_goals exact ⟨by simp [lvlI, *], rfl⟩
theorem specLevel (l : Int) (w : World) : Calls Tryd.prog 72 #[.int .i64 l] w fun e w' => e = .returned (.int .i64 (lvlI l)) ∧ w' = w := by
  rcases (show l = 1 ∨ l = 2 ∨ l = 3 ∨ (l ≠ 1 ∧ l ≠ 2 ∧ l ≠ 3) by omega) with rfl | rfl | rfl | ⟨h1, h2, h3⟩
  all_goals
    go_enter Tryd.func72, Tryd.ntmps72
    go_wp2
    all_goals go_ret
    all_goals exact ⟨by simp [lvlI, *], rfl⟩

set_option maxHeartbeats 800000 in
theorem seqFault_any (l b : Int) (a1 a2 : Option Addr) (c1 c2 : Nat) (xs ys : List Int) (w : World) (h1 : Ints w a1 xs) (h2 : Ints w a2 ys) (m1 : xs.length ≤ maxLen) (m2 : ys.length ≤ maxLen) :
    Calls Tryd.prog 67 #[.agg #[.int .i64 l, .int .i64 b, .slice a1 xs.length c1, .slice a2 ys.length c2]] w fun e w' => ((seqB l b xs ys = true ∧ e = .returned .nilIface) ∨ (seqB l b xs ys = false ∧ ∃ c : Int, c ≠ 0 ∧ e = .returned (faultV c))) ∧ Below w.heap.size w w' := by
  have H : Hid (Ints w a1 xs ∧ Ints w a2 ys) := ⟨h1, h2⟩
  clear h1 h2
  have HB : Hid (seqB l b xs ys = (decide (1 ≤ sqI xs ys) && decide (sqI xs ys ≤ lvlI l) && (decide (3 ≤ b) && decide (b ≤ 8)))) := rfl
  obtain ⟨q0, q1⟩ := sqI_bd xs ys
  go_enter Tryd.func67, Tryd.ntmps67
  go_wp2_with fail
  generalize hW : World.alloc w _ = W
  have B0 : Blk W w.heap.size #[.int .i64 l, .int .i64 b, .slice a1 xs.length c1, .slice a2 ys.length c2] 26 := by rw [← hW]; exact Blk.new w _ _
  have hb0 : Below w.heap.size w W := by rw [← hW]; exact (Below.refl _ _).alloc (Nat.le_refl _) _
  clear hW
  refine (implSquares _ _ _ _ _ _ _ _ W (H.out.1.below hb0 (Nat.le_refl _)) (H.out.2.below hb0 (Nat.le_refl _)) m1 m2).mono ?_
  rintro e w1 ⟨rfl, hc⟩
  have hb1 := hb0.trans (hc.mono hb0.size)
  obtain ⟨⟨x0, x1, x2, x3⟩, _⟩ := (B0.below hc B0.lt).four
  clear hc hb0 B0
  generalize sqI xs ys = q at *
  have HL := implLevel l
  generalize lvlI l = L at *
  by_cases k1 : q = 0
  · have e1 : (q == 0) = true := by simp [k1]
    go_wp2
    go_ret
    exact ⟨.inr ⟨by rw [HB.out]; simp; omega, 2, by decide, rfl⟩, hb1⟩
  have e1 : (q == 0) = false := by rw [beq_eq_false_iff_ne]; exact k1
  by_cases k2 : L < q
  · go_wp2_with (go_at_call 81; refine (HL _).mono ?_; rintro e w2 ⟨rfl, hw⟩; subst w2)
    go_ret
    exact ⟨.inr ⟨by rw [HB.out]; simp; omega, 3, by decide, rfl⟩, hb1⟩
  by_cases k3 : b < 3
  · go_wp2_with (go_at_call 81; refine (HL _).mono ?_; rintro e w2 ⟨rfl, hw⟩; subst w2)
    go_ret
    exact ⟨.inr ⟨by rw [HB.out]; simp; omega, 4, by decide, rfl⟩, hb1⟩
  by_cases k4 : 8 < b
  · go_wp2_with (go_at_call 81; refine (HL _).mono ?_; rintro e w2 ⟨rfl, hw⟩; subst w2)
    go_ret
    exact ⟨.inr ⟨by rw [HB.out]; simp; omega, 4, by decide, rfl⟩, hb1⟩
  · go_wp2_with (go_at_call 81; refine (HL _).mono ?_; rintro e w2 ⟨rfl, hw⟩; subst w2)
    go_ret
    exact ⟨.inl ⟨by rw [HB.out]; simp; omega, rfl⟩, hb1⟩

set_option maxHeartbeats 800000 in
theorem implSeqOk (l b : Int) (a1 a2 : Option Addr) (c1 c2 : Nat) (xs ys : List Int) (w : World) (hg : ErrT w) (h1 : Ints w a1 xs) (h2 : Ints w a2 ys) (m1 : xs.length ≤ maxLen) (m2 : ys.length ≤ maxLen) :
    Calls Tryd.prog 38 #[.agg #[.int .i64 l, .int .i64 b, .slice a1 xs.length c1, .slice a2 ys.length c2]] w fun e w' => e = .returned (.bool (seqB l b xs ys)) ∧ Below w.heap.size w w' := by
  have H : Hid (Ints w a1 xs ∧ Ints w a2 ys ∧ ErrT w) := ⟨h1, h2, hg⟩
  clear h1 h2 hg
  go_enter Tryd.func38, Tryd.ntmps38
  go_wp2_with fail
  generalize hW : World.alloc w _ = W
  have hb0 : Below w.heap.size w W := by rw [← hW]; exact (Below.refl _ _).alloc (Nat.le_refl _) _
  clear hW
  refine (seqFault_any _ _ _ _ _ _ _ _ W (H.out.1.below hb0 (Nat.le_refl _)) (H.out.2.1.below hb0 (Nat.le_refl _)) m1 m2).mono ?_
  rintro e w1 ⟨⟨hs, rfl⟩ | ⟨hs, c, hc0, rfl⟩, hc⟩
  · have hb1 := hb0.trans (hc.mono hb0.size)
    have HS : Hid (seqB l b xs ys = true) := hs
    clear hs hc hb0
    go_wp2_with (go_at_call 66; refine (code_nil _).mono ?_; rintro e w2 ⟨rfl, hc2⟩)
    go_ret
    exact ⟨by rw [HS.out]; rfl, hb1.trans (hc2.mono hb1.size)⟩
  · have hb1 := hb0.trans (hc.mono hb0.size)
    have HS : Hid (seqB l b xs ys = false) := hs
    have e0 : (c == 0) = false := by rw [beq_eq_false_iff_ne]; exact hc0
    clear hs hc hb0 hc0
    go_wp2_with (go_at_call 66; refine (code_hit _ _ (H.out.2.2.below hb1 (Nat.le_refl _))).mono ?_; rintro e w2 ⟨rfl, hc2⟩)
    go_ret
    exact ⟨by rw [HS.out]; rfl, hb1.trans (hc2.mono hb1.size)⟩

set_option maxHeartbeats 1600000 in
theorem specSeqOk (l b : Int) (a1 a2 : Option Addr) (c1 c2 : Nat) (xs ys : List Int) (w : World) (h1 : Ints w a1 xs) (h2 : Ints w a2 ys) (m1 : xs.length ≤ maxLen) (m2 : ys.length ≤ maxLen) :
    Calls Tryd.prog 51 #[.agg #[.int .i64 l, .int .i64 b, .slice a1 xs.length c1, .slice a2 ys.length c2]] w fun e w' => e = .returned (.bool (seqB l b xs ys)) ∧ Below w.heap.size w w' := by
  have H : Hid (Ints w a1 xs ∧ Ints w a2 ys) := ⟨h1, h2⟩
  have hbA := ((Below.refl w.heap.size w).alloc (Nat.le_refl _) (.cells #[.int .i64 l, .int .i64 b, .slice a1 xs.length c1, .slice a2 ys.length c2] 26)).drew
  have BA := (Blk.new w #[.int .i64 l, .int .i64 b, .slice a1 xs.length c1, .slice a2 ys.length c2] 26).drew
  have HBA : Hid (Blk _ _ _ _) := BA
  clear h1 h2 BA
  have HB : Hid (seqB l b xs ys = (decide (1 ≤ sqI xs ys) && decide (sqI xs ys ≤ lvlI l) && (decide (3 ≤ b) && decide (b ≤ 8)))) := rfl
  have HQ : Hid (∀ w', Below w.heap.size w w' → Calls Tryd.prog 57 #[.agg #[.int .i64 l, .int .i64 b, .slice a1 xs.length c1, .slice a2 ys.length c2]] w' fun e w'' => e = .returned (.int .i64 (sqI xs ys)) ∧ Below w'.heap.size w' w'') := fun w' hb => specSquares l b a1 a2 c1 c2 xs ys w' (H.out.1.below hb (Nat.le_refl _)) (H.out.2.below hb (Nat.le_refl _)) m1 m2
  have HL := specLevel l
  have HV : Hid (∀ v : Bool, v = (decide (1 ≤ sqI xs ys) && decide (sqI xs ys ≤ lvlI l) && (decide (3 ≤ b) && decide (b ≤ 8))) → v = seqB l b xs ys) := fun v h => h
  generalize sqI xs ys = q at *
  generalize lvlI l = L at *
  cases hk : (decide (1 ≤ q) && decide (q ≤ L)) with
  | false =>
    rw [hk] at HV
    go_enter Tryd.func51, Tryd.ntmps51
    go_wp2_with fail
    first
    | (go_region_with (first
        | (go_at_call 57; refine (HQ.out _ hbA).mono ?_; rintro e w1 ⟨rfl, hc1⟩; have x0 := (HBA.out.below hc1 HBA.out.lt).four.1.1)
        | (go_at_call 72; refine (HL _).mono ?_; rintro e w2 ⟨rfl, hw⟩; subst w2)
        | (go_at_call 44; refine (in_any _ _ _ _).mono ?_; rintro e w2 ⟨rfl, hw⟩; subst w2)))
    | fail
    all_goals
      go_wp2
      go_ret
      exact ⟨by rw [← HV.out false rfl]; rfl, hbA.trans (hc1.mono hbA.size)⟩
  | true =>
    rw [hk] at HV
    go_enter Tryd.func51, Tryd.ntmps51
    go_wp2_with fail
    go_region_held3 (fun w' => w'.cell? ⟨w.heap.size, 0, none⟩ = some (.int .i64 l) ∧ w'.cell? ⟨w.heap.size, 1, none⟩ = some (.int .i64 b) ∧ w'.cell? ⟨w.heap.size, 2, none⟩ = some (.slice a1 xs.length c1) ∧ w'.cell? ⟨w.heap.size, 3, none⟩ = some (.slice a2 ys.length c2))
      (first | go_keep | exact (HBA.out.below hc1 HBA.out.lt).four.1)
      (first
        | (go_at_call 57; refine (HQ.out _ hbA).mono ?_; rintro e w1 ⟨rfl, hc1⟩)
        | (go_at_call 72; refine (HL _).mono ?_; rintro e w2 ⟨rfl, hw⟩; subst w2)
        | (go_at_call 44; refine (in_any _ _ _ _).mono ?_; rintro e w2 ⟨rfl, hw⟩; subst w2))
    all_goals
      go_wp2
      go_ret
      exact ⟨by rw [← HV.out (decide (3 ≤ b) && decide (b ≤ 8)) rfl]; rfl, hbA.trans (hc1.mono hbA.size)⟩
end Go.Proofs.YtdokmojifkggjaaDoor

namespace Go.Proofs.YtdokmojifkggjaaDoor
open Go.RowKit
set_option linter.unusedVariables false
set_option maxRecDepth 20000

/-- A set in memory: its two lists, and the library's handle. -/
def SetIn (w : World) (a1 a2 : Option Addr) (xs ys : List Int) : Prop := (Ints w a1 xs ∧ Ints w a2 ys ∧ ErrT w) ∧ xs.length ≤ maxLen ∧ ys.length ≤ maxLen
theorem SetIn.below {w w' : World} {a1 a2 : Option Addr} {xs ys : List Int} {B : Nat} (h : SetIn w a1 a2 xs ys) (hb : Below B w w') (hB : w.heap.size ≤ B) : SetIn w' a1 a2 xs ys := ⟨⟨h.1.1.below hb hB, h.1.2.1.below hb hB, h.1.2.2.below hb hB⟩, h.2⟩
/-- How many dots a side has. -/
def szI (l b : Int) (xs ys zs : List Int) : Int := if seqB l b xs ys = true then 8 * sideI zs else 0
theorem szI_no {l b : Int} {xs ys zs : List Int} (h : seqB l b xs ys = false) : szI l b xs ys zs = 0 := by unfold szI; rw [h]; rfl
theorem szI_yes {l b : Int} {xs ys zs : List Int} (h : seqB l b xs ys = true) : szI l b xs ys zs = 8 * sideI zs := by unfold szI; rw [h]; rfl
theorem tilesI_no {l b : Int} {xs ys : List Int} (h : seqB l b xs ys = false) : tilesI l b xs ys = 0 := by unfold tilesI; rw [h]; rfl
theorem tilesI_yes {l b : Int} {xs ys : List Int} (h : seqB l b xs ys = true) : tilesI l b xs ys = (xs.length : Int) * (ys.length : Int) := by unfold tilesI; rw [h]; rfl

set_option maxHeartbeats 800000 in
theorem implTilesOf (l b : Int) (a1 a2 : Option Addr) (c1 c2 : Nat) (xs ys : List Int) (w : World) (h : SetIn w a1 a2 xs ys) :
    Calls Tryd.prog 40 #[.agg #[.int .i64 l, .int .i64 b, .slice a1 xs.length c1, .slice a2 ys.length c2]] w fun e w' => e = .returned (.int .i64 (tilesI l b xs ys)) ∧ Below w.heap.size w w' := by
  have H : Hid (SetIn w a1 a2 xs ys) := h
  clear h
  obtain ⟨s0, s1⟩ := sideI_bd xs
  obtain ⟨r0, r1⟩ := sideI_bd ys
  go_enter Tryd.func40, Tryd.ntmps40
  go_wp2_with fail
  generalize hW : World.alloc w _ = W
  have B0 : Blk W w.heap.size #[.int .i64 l, .int .i64 b, .slice a1 xs.length c1, .slice a2 ys.length c2] 26 := by rw [← hW]; exact Blk.new w _ _
  have hb0 : Below w.heap.size w W := by rw [← hW]; exact (Below.refl _ _).alloc (Nat.le_refl _) _
  clear hW
  have HW := H.out.below hb0 (Nat.le_refl _)
  refine (implSeqOk _ _ _ _ _ _ _ _ W HW.1.2.2 HW.1.1 HW.1.2.1 HW.2.1 HW.2.2).mono ?_
  rintro e w1 ⟨rfl, hc⟩
  have hb1 := hb0.trans (hc.mono hb0.size)
  have B1 := B0.below hc B0.lt
  obtain ⟨⟨x0, x1, x2, x3⟩, _⟩ := B1.four
  clear hc hb0 B0 HW
  cases hs : seqB l b xs ys with
  | false =>
    have H0 : Hid (tilesI l b xs ys = 0) := tilesI_no hs
    clear hs
    go_wp2
    go_ret
    exact ⟨by rw [H0.out]; rfl, hb1⟩
  | true =>
    have H0 : Hid (tilesI l b xs ys = (xs.length : Int) * (ys.length : Int)) := tilesI_yes hs
    obtain ⟨⟨_, _, k1⟩, ⟨_, _, k2⟩, _⟩ := seq_sides hs
    have m1 : (xs.length : Int) ≤ 4 := by omega
    have m2 : (ys.length : Int) ≤ 4 := by omega
    have HM : Hid (wrap64 ((xs.length : Int) * (ys.length : Int)) = (xs.length : Int) * (ys.length : Int)) := by
      have hh : (xs.length : Int) * (ys.length : Int) ≤ 4 * 4 := Int.mul_le_mul m1 m2 (by omega) (by omega)
      have h0 : 0 ≤ (xs.length : Int) * (ys.length : Int) := Int.mul_nonneg (by omega) (by omega)
      exact IntWalk.wrap64_in _ ⟨by omega, by omega⟩
    clear hs k1 k2
    go_wp2
    go_ret
    refine ⟨?_, hb1⟩
    rw [H0.out]
    first
    | rfl
    | (show Ending.returned (.int .i64 (wrap64 ((xs.length : Int) * (ys.length : Int)))) = _; rw [HM.out])

set_option maxHeartbeats 800000 in
theorem specTilesOf (l b : Int) (a1 a2 : Option Addr) (c1 c2 : Nat) (xs ys : List Int) (w : World) (h : SetIn w a1 a2 xs ys) :
    Calls Tryd.prog 43 #[.agg #[.int .i64 l, .int .i64 b, .slice a1 xs.length c1, .slice a2 ys.length c2]] w fun e w' => e = .returned (.int .i64 (tilesI l b xs ys)) ∧ Below w.heap.size w w' := by
  have H : Hid (SetIn w a1 a2 xs ys) := h
  clear h
  obtain ⟨s0, s1⟩ := sideI_bd xs
  obtain ⟨r0, r1⟩ := sideI_bd ys
  go_enter Tryd.func43, Tryd.ntmps43
  go_wp2_with fail
  generalize hW : World.alloc w _ = W
  have B0 : Blk W w.heap.size #[.int .i64 l, .int .i64 b, .slice a1 xs.length c1, .slice a2 ys.length c2] 26 := by rw [← hW]; exact Blk.new w _ _
  have hb0 : Below w.heap.size w W := by rw [← hW]; exact (Below.refl _ _).alloc (Nat.le_refl _) _
  clear hW
  have HW := H.out.below hb0 (Nat.le_refl _)
  refine (specSeqOk _ _ _ _ _ _ _ _ W HW.1.1 HW.1.2.1 HW.2.1 HW.2.2).mono ?_
  rintro e w1 ⟨rfl, hc⟩
  have hb1 := hb0.trans (hc.mono hb0.size)
  have B1 := B0.below hc B0.lt
  obtain ⟨⟨x0, x1, x2, x3⟩, _⟩ := B1.four
  clear hc hb0 B0 HW
  cases hs : seqB l b xs ys with
  | false =>
    have H0 : Hid (tilesI l b xs ys = 0) := tilesI_no hs
    clear hs
    go_wp2
    go_ret
    exact ⟨by rw [H0.out]; rfl, hb1⟩
  | true =>
    have H0 : Hid (tilesI l b xs ys = (xs.length : Int) * (ys.length : Int)) := tilesI_yes hs
    obtain ⟨⟨_, _, k1⟩, ⟨_, _, k2⟩, _⟩ := seq_sides hs
    have m1 : (xs.length : Int) ≤ 4 := by omega
    have m2 : (ys.length : Int) ≤ 4 := by omega
    have HM : Hid (wrap64 ((xs.length : Int) * (ys.length : Int)) = (xs.length : Int) * (ys.length : Int)) := by
      have hh : (xs.length : Int) * (ys.length : Int) ≤ 4 * 4 := Int.mul_le_mul m1 m2 (by omega) (by omega)
      have h0 : 0 ≤ (xs.length : Int) * (ys.length : Int) := Int.mul_nonneg (by omega) (by omega)
      exact IntWalk.wrap64_in _ ⟨by omega, by omega⟩
    clear hs k1 k2
    go_wp2
    go_ret
    refine ⟨?_, hb1⟩
    rw [H0.out]
    first
    | rfl
    | (show Ending.returned (.int .i64 (wrap64 ((xs.length : Int) * (ys.length : Int)))) = _; rw [HM.out])

end Go.Proofs.YtdokmojifkggjaaDoor

namespace Go.Proofs.YtdokmojifkggjaaDoor
open Go.RowKit
set_option linter.unusedVariables false
set_option maxRecDepth 20000

theorem Blk.grown {w w' : World} {g : Nat} {cs : Array Value} {t : TypeId} {row : Option Nat} (h : Blk w g cs t) (hg : w.grownBy w' row) (hne : some g ≠ row) : Blk w' g cs t := (hg.block g h.lt hne).trans h
theorem grown_set (w : World) (g j : Nat) (v : Value) : w.grownBy (w.setCell ⟨g, j, none⟩ v) (some g) :=
  ⟨rfl, rfl, rfl, by simp, fun k hk hne => Below.heap_setCell w ⟨g, j, none⟩ v k (fun e => hne (by rw [e]))⟩
theorem grown_drew (w : World) (row : Option Nat) : w.grownBy w.drew row := ⟨rfl, rfl, rfl, Nat.le_refl _, fun _ _ _ => rfl⟩
theorem grown_of_below {w w' : World} (hb : Below w.heap.size w w') (row : Option Nat) : w.grownBy w' row := ⟨hb.os, hb.tape, hb.output, hb.size, fun k hk _ => hb.block k hk⟩
theorem below_grown {w w' : World} {g B : Nat} (h : w.grownBy w' (some g)) (hB : B ≤ g) (hw : B ≤ w.heap.size) : Below B w w' := ⟨h.os, h.tape, h.output, h.size, fun k hk => h.block k (by omega) (by intro e; cases e; omega)⟩
theorem ErrT.grown {w w' : World} {g : Nat} (h : ErrT w) (hg : w.grownBy w' (some g)) (hne : 0 < g) : ErrT w' := hg.cell h (by intro e; simp at e; omega)
theorem Ints.grown {w w' : World} {a : Option Addr} {xs : List Int} {g : Nat} (h : Ints w a xs) (hg : w.grownBy w' (some g)) (hq : ∀ p, a = some p → p.block ≠ g) : Ints w' a xs := by
  rcases h with h | ⟨b, off, rfl, hb, hc⟩
  · exact .inl h
  · exact .inr ⟨b, off, rfl, Nat.lt_of_lt_of_le hb hg.size, fun i hi => hg.cell (hc i hi) (by intro e; simp at e; exact hq _ rfl e)⟩

end Go.Proofs.YtdokmojifkggjaaDoor
