/-
  The walks of SizeOf and TilesOf, of both.
-/
import Derived.Test.YtdokmojifkggjaaDoorFaultKit
import Derived.Test.YtdokmojifkggjaaDoorGridMath
namespace Go.Proofs.YtdokmojifkggjaaDoor
open Go.RowKit
set_option linter.unusedVariables false
set_option maxRecDepth 20000

/-- A set in memory: its two lists, and the library's handle. -/
def SetIn (w : World) (a1 a2 : Option Addr) (xs ys : List Int) : Prop := (Ints w a1 xs ∧ Ints w a2 ys ∧ ErrT w) ∧ xs.length ≤ maxLen ∧ ys.length ≤ maxLen
theorem SetIn.below {w w' : World} {a1 a2 : Option Addr} {xs ys : List Int} {B : Nat} (h : SetIn w a1 a2 xs ys) (hb : Below B w w') (hB : w.heap.size ≤ B) : SetIn w' a1 a2 xs ys := ⟨⟨h.1.1.below hb hB, h.1.2.1.below hb hB, h.1.2.2.below hb hB⟩, h.2⟩
/-- How many dots a side has. -/
def szI (l b : Int) (xs ys zs : List Int) : Int := if seqB l b xs ys = true then 8 * sideI zs else 0
theorem szI_no {l b : Int} {xs ys zs : List Int} (h : seqB l b xs ys = false) : szI l b xs ys zs = 0 := by unfold szI; rw [h]; rfl
theorem szI_yes {l b : Int} {xs ys zs : List Int} (h : seqB l b xs ys = true) : szI l b xs ys zs = 8 * sideI zs := by unfold szI; rw [h]; rfl
theorem tilesI_no {l b : Int} {xs ys : List Int} (h : seqB l b xs ys = false) : tilesI l b xs ys = 0 := by unfold tilesI; rw [h]; rfl
theorem tilesI_yes {l b : Int} {xs ys : List Int} (h : seqB l b xs ys = true) : tilesI l b xs ys = (xs.length : Int) * (ys.length : Int) := by unfold tilesI; rw [h]; rfl

set_option maxHeartbeats 800000 in
theorem implTilesOf (l b : Int) (a1 a2 : Option Addr) (c1 c2 : Nat) (xs ys : List Int) (w : World) (h : SetIn w a1 a2 xs ys) :
    Calls Tryd.prog 40 #[.agg #[.int .i64 l, .int .i64 b, .slice a1 xs.length c1, .slice a2 ys.length c2]] w fun e w' => e = .returned (.int .i64 (tilesI l b xs ys)) ∧ Below w.heap.size w w' := by
  have H : Hid (SetIn w a1 a2 xs ys) := h
  clear h
  obtain ⟨s0, s1⟩ := sideI_bd xs
  obtain ⟨r0, r1⟩ := sideI_bd ys
  go_enter Tryd.func40, Tryd.ntmps40
  go_wp2_with fail
  generalize hW : World.alloc w _ = W
  have B0 : Blk W w.heap.size #[.int .i64 l, .int .i64 b, .slice a1 xs.length c1, .slice a2 ys.length c2] 26 := by rw [← hW]; exact Blk.new w _ _
  have hb0 : Below w.heap.size w W := by rw [← hW]; exact (Below.refl _ _).alloc (Nat.le_refl _) _
  clear hW
  have HW := H.out.below hb0 (Nat.le_refl _)
  refine (implSeqOk _ _ _ _ _ _ _ _ W HW.1.2.2 HW.1.1 HW.1.2.1 HW.2.1 HW.2.2).mono ?_
  rintro e w1 ⟨rfl, hc⟩
  have hb1 := hb0.trans (hc.mono hb0.size)
  have B1 := B0.below hc B0.lt
  obtain ⟨⟨x0, x1, x2, x3⟩, _⟩ := B1.four
  clear hc hb0 B0 HW
  cases hs : seqB l b xs ys with
  | false =>
    have H0 : Hid (tilesI l b xs ys = 0) := tilesI_no hs
    clear hs
    go_wp2
    go_ret
    exact ⟨by rw [H0.out]; rfl, hb1⟩
  | true =>
    have H0 : Hid (tilesI l b xs ys = (xs.length : Int) * (ys.length : Int)) := tilesI_yes hs
    obtain ⟨⟨_, _, k1⟩, ⟨_, _, k2⟩, _⟩ := seq_sides hs
    have m1 : (xs.length : Int) ≤ 4 := by omega
    have m2 : (ys.length : Int) ≤ 4 := by omega
    have HM : Hid (wrap64 ((xs.length : Int) * (ys.length : Int)) = (xs.length : Int) * (ys.length : Int)) := by
      have hh : (xs.length : Int) * (ys.length : Int) ≤ 4 * 4 := Int.mul_le_mul m1 m2 (by omega) (by omega)
      have h0 : 0 ≤ (xs.length : Int) * (ys.length : Int) := Int.mul_nonneg (by omega) (by omega)
      exact IntWalk.wrap64_in _ ⟨by omega, by omega⟩
    clear hs k1 k2
    go_wp2
    go_ret
    refine ⟨?_, hb1⟩
    rw [H0.out]
    first
    | rfl
    | (show Ending.returned (.int .i64 (wrap64 ((xs.length : Int) * (ys.length : Int)))) = _; rw [HM.out])

set_option maxHeartbeats 800000 in
theorem specTilesOf (l b : Int) (a1 a2 : Option Addr) (c1 c2 : Nat) (xs ys : List Int) (w : World) (h : SetIn w a1 a2 xs ys) :
    Calls Tryd.prog 43 #[.agg #[.int .i64 l, .int .i64 b, .slice a1 xs.length c1, .slice a2 ys.length c2]] w fun e w' => e = .returned (.int .i64 (tilesI l b xs ys)) ∧ Below w.heap.size w w' := by
  have H : Hid (SetIn w a1 a2 xs ys) := h
  clear h
  obtain ⟨s0, s1⟩ := sideI_bd xs
  obtain ⟨r0, r1⟩ := sideI_bd ys
  go_enter Tryd.func43, Tryd.ntmps43
  go_wp2_with fail
  generalize hW : World.alloc w _ = W
  have B0 : Blk W w.heap.size #[.int .i64 l, .int .i64 b, .slice a1 xs.length c1, .slice a2 ys.length c2] 26 := by rw [← hW]; exact Blk.new w _ _
  have hb0 : Below w.heap.size w W := by rw [← hW]; exact (Below.refl _ _).alloc (Nat.le_refl _) _
  clear hW
  have HW := H.out.below hb0 (Nat.le_refl _)
  refine (specSeqOk _ _ _ _ _ _ _ _ W HW.1.1 HW.1.2.1 HW.2.1 HW.2.2).mono ?_
  rintro e w1 ⟨rfl, hc⟩
  have hb1 := hb0.trans (hc.mono hb0.size)
  have B1 := B0.below hc B0.lt
  obtain ⟨⟨x0, x1, x2, x3⟩, _⟩ := B1.four
  clear hc hb0 B0 HW
  cases hs : seqB l b xs ys with
  | false =>
    have H0 : Hid (tilesI l b xs ys = 0) := tilesI_no hs
    clear hs
    go_wp2
    go_ret
    exact ⟨by rw [H0.out]; rfl, hb1⟩
  | true =>
    have H0 : Hid (tilesI l b xs ys = (xs.length : Int) * (ys.length : Int)) := tilesI_yes hs
    obtain ⟨⟨_, _, k1⟩, ⟨_, _, k2⟩, _⟩ := seq_sides hs
    have m1 : (xs.length : Int) ≤ 4 := by omega
    have m2 : (ys.length : Int) ≤ 4 := by omega
    have HM : Hid (wrap64 ((xs.length : Int) * (ys.length : Int)) = (xs.length : Int) * (ys.length : Int)) := by
      have hh : (xs.length : Int) * (ys.length : Int) ≤ 4 * 4 := Int.mul_le_mul m1 m2 (by omega) (by omega)
      have h0 : 0 ≤ (xs.length : Int) * (ys.length : Int) := Int.mul_nonneg (by omega) (by omega)
      exact IntWalk.wrap64_in _ ⟨by omega, by omega⟩
    clear hs k1 k2
    go_wp2
    go_ret
    refine ⟨?_, hb1⟩
    rw [H0.out]
    first
    | rfl
    | (show Ending.returned (.int .i64 (wrap64 ((xs.length : Int) * (ys.length : Int)))) = _; rw [HM.out])

end Go.Proofs.YtdokmojifkggjaaDoor
