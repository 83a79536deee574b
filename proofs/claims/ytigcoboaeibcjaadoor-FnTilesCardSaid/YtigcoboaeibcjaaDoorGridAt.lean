/-
  Which tile has a dot: the walk of impl.TileAt.
-/
import Derived.Test.YtigcoboaeibcjaaDoorGridFit
namespace Go.Proofs.YtigcoboaeibcjaaDoor
open Go.RowKit
set_option linter.unusedVariables false
set_option maxRecDepth 20000

/-- What TileAt answers. -/
def atI (l b : Int) (xs ys : List Int) (x y : Int) : Int := if seqB l b xs ys = true then tileI xs ys x y else -1
theorem atI_no {l b : Int} {xs ys : List Int} {x y : Int} (h : seqB l b xs ys = false) : atI l b xs ys x y = -1 := by unfold atI; rw [h]; rfl
theorem atI_none {l b : Int} {xs ys : List Int} {x y : Int} (h : ∀ t, t < xs.length * ys.length → hasB xs ys t x y = false) : atI l b xs ys x y = -1 := by
  unfold atI
  split
  · exact tileI_no h
  · rfl
theorem atI_hit {l b : Int} {xs ys : List Int} {x y : Int} {t : Nat} (hs : seqB l b xs ys = true) (ht : t < xs.length * ys.length) (h : hasB xs ys t x y = true) : atI l b xs ys x y = (t : Int) := by
  obtain ⟨⟨gx, _, _⟩, ⟨gy, _, _⟩, _⟩ := seq_sides hs
  unfold atI; rw [if_pos hs, tileI_hit gx gy ht h]

/-- stripWith, its answer in letters. -/
theorem stripWith_ex (a : Option Addr) (cap : Nat) (xs : List Int) (d : Int) (w : World) (ht : Ints w a xs) (hg : goodT xs xs.length) (hl : xs.length ≤ 4) (hn : 1 ≤ xs.length) :
    Calls Tryd.prog 47 #[.slice a xs.length cap, .int .i64 d] w fun e w' => (∃ (i f s : Int) (o : Bool), e = .returned (.tuple #[.agg #[.int .i64 i, .int .i64 f, .int .i64 s], .bool o]) ∧ ((o = true ∧ ∃ c : Nat, i = (c : Int) ∧ c < xs.length ∧ inS xs c d = true) ∨ (o = false ∧ ∀ c, c < xs.length → inS xs c d = false))) ∧ Below w.heap.size w w' := by
  refine (stripWith_any a cap xs d w ht hg hl hn).mono ?_
  rintro e w' ⟨⟨i, hi, hin, rfl⟩ | ⟨hno, rfl⟩, hb⟩
  · exact ⟨⟨_, _, _, _, rfl, .inl ⟨rfl, i, rfl, hi, hin⟩⟩, hb⟩
  · exact ⟨⟨_, _, _, _, rfl, .inr ⟨rfl, hno⟩⟩, hb⟩

set_option maxHeartbeats 1600000 in
theorem implTileAt (l b : Int) (a1 a2 : Option Addr) (c1 c2 : Nat) (xs ys : List Int) (x y : Int) (w : World) (h : SetIn w a1 a2 xs ys) :
    Calls Tryd.prog 21 #[.agg #[.int .i64 l, .int .i64 b, .slice a1 xs.length c1, .slice a2 ys.length c2], .int .i64 x, .int .i64 y] w fun e w' => e = .returned (.int .i64 (atI l b xs ys x y)) ∧ Below w.heap.size w w' := by
  have H : Hid (SetIn w a1 a2 xs ys) := h
  clear h
  go_enter Tryd.func21, Tryd.ntmps21
  go_wp2_with fail
  generalize hW : World.alloc w _ = W
  have B0 : Blk W w.heap.size #[.int .i64 l, .int .i64 b, .slice a1 xs.length c1, .slice a2 ys.length c2] 26 := by rw [← hW]; exact Blk.new w _ _
  have hb0 : Below w.heap.size w W := by rw [← hW]; exact (Below.refl _ _).alloc (Nat.le_refl _) _
  clear hW
  have HW := H.out.below hb0 (Nat.le_refl _)
  refine (implSeqOk _ _ _ _ _ _ _ _ W HW.1.2.2 HW.1.1 HW.1.2.1 HW.2.1 HW.2.2).mono ?_
  rintro e w1 ⟨rfl, hc⟩
  have hb1 := hb0.trans (hc.mono hb0.size)
  have B1 := B0.below hc B0.lt
  obtain ⟨x0, x1, x2, x3⟩ := B1.four.1
  clear hc hb0 B0 HW
  cases hs : seqB l b xs ys with
  | false =>
    have H0 : Hid (atI l b xs ys x y = -1) := atI_no hs
    clear hs
    go_wp2
    go_ret
    exact ⟨by rw [H0.out]; rfl, hb1⟩
  | true =>
    obtain ⟨⟨gx, nx0, nx1⟩, ⟨gy, ny0, ny1⟩, _⟩ := seq_sides hs
    have HI1 := H.out.below hb1 (Nat.le_refl _)
    go_wp2_with fail
    refine (stripWith_ex a1 c1 xs x w1 HI1.1.1 gx nx1 nx0).mono ?_
    rintro e w2 ⟨⟨ci, cf, cs, co, rfl, hcol⟩, hc2⟩
    have hb2 := hb1.trans (hc2.mono hb1.size)
    have B2 := (B1.below hc2 B1.lt).alloc (.cells #[.int .i64 ci, .int .i64 cf, .int .i64 cs] 73)
    have C2 := Blk.new w2 #[.int .i64 ci, .int .i64 cf, .int .i64 cs] 73
    have hb3 := hb2.alloc hb2.size (.cells #[.int .i64 ci, .int .i64 cf, .int .i64 cs] 73)
    clear B1 x0 x1 x2 x3 hc2 hb2 hb1 HI1
    obtain ⟨x0, x1, x2, x3⟩ := B2.four.1
    go_wp2_with fail
    generalize w2.alloc _ = w3 at *
    generalize w2.heap.size = kc at *
    have HI3 := H.out.below hb3 (Nat.le_refl _)
    refine (stripWith_ex a2 c2 ys y w3 HI3.1.2.1 gy ny1 ny0).mono ?_
    rintro e w4 ⟨⟨ri, rf, rs, ro, rfl, hrow⟩, hc4⟩
    have hb4 := hb3.trans (hc4.mono hb3.size)
    have B4 := (B2.below hc4 B2.lt).alloc (.cells #[.int .i64 ri, .int .i64 rf, .int .i64 rs] 73)
    have C4 := (C2.below hc4 C2.lt).alloc (.cells #[.int .i64 ri, .int .i64 rf, .int .i64 rs] 73)
    have D4 := Blk.new w4 #[.int .i64 ri, .int .i64 rf, .int .i64 rs] 73
    have hb5 := hb4.alloc hb4.size (.cells #[.int .i64 ri, .int .i64 rf, .int .i64 rs] 73)
    clear B2 C2 x0 x1 x2 x3 hc4 hb4 hb3 HI3
    obtain ⟨x0, x1, x2, x3⟩ := B4.four.1
    obtain ⟨p0, p1, p2⟩ := C4.three.1
    obtain ⟨q0, q1, q2⟩ := D4.three.1
    rcases hcol with ⟨rfl, c, rfl, hcl, hci⟩ | ⟨rfl, hno⟩
    · rcases hrow with ⟨rfl, r, rfl, hrl, hri⟩ | ⟨rfl, hno⟩
      · have H0 : Hid (atI l b xs ys x y = ((r * xs.length + c : Nat) : Int)) := atI_hit hs (tile_lt hcl hrl) (hasB_at hcl hci hri)
        have n1 : (xs.length : Int) ≤ 4 := by omega
        have n2 : (c : Int) < 4 := by omega
        have n3 : (r : Int) < 4 := by omega
        have hh : (r : Int) * (xs.length : Int) ≤ 4 * 4 := Int.mul_le_mul (by omega) n1 (by omega) (by omega)
        have h0 : 0 ≤ (r : Int) * (xs.length : Int) := Int.mul_nonneg (by omega) (by omega)
        have HM : Hid (wrap64 (wrap64 ((r : Int) * (xs.length : Int)) + (c : Int)) = ((r * xs.length + c : Nat) : Int)) := by
          rw [IntWalk.wrap64_in ((r : Int) * (xs.length : Int)) ⟨by omega, by omega⟩, IntWalk.wrap64_in _ ⟨by omega, by omega⟩, Int.natCast_add, Int.natCast_mul]; exact rfl
        clear hs gx gy B4 C4 D4 hh h0
        go_wp2
        go_ret
        refine ⟨?_, hb5⟩
        rw [H0.out, ← HM.out]
        rfl
      · have H0 : Hid (atI l b xs ys x y = -1) := atI_none (fun t ht => by
          rw [Bool.eq_false_iff]; intro h; have := (hasB_iff.1 h).2; rw [hno _ (div_lt' ht)] at this; cases this)
        clear hs gx gy B4 C4 D4 hno
        go_wp2
        go_ret
        exact ⟨by rw [H0.out]; rfl, hb5⟩
    · have H0 : Hid (atI l b xs ys x y = -1) := atI_none (fun t ht => by
        rw [Bool.eq_false_iff]; intro h; have := (hasB_iff.1 h).1; rw [hno _ (Nat.mod_lt _ (by omega))] at this; cases this)
      clear hs gx gy B4 C4 D4 hno hrow
      go_wp2
      all_goals
        go_ret
        exact ⟨by rw [H0.out]; rfl, hb5⟩
end Go.Proofs.YtigcoboaeibcjaaDoor
