/-
  The walks of laws.FnExactUnitsIn and laws.FnExactUnframed.
-/
import Derived.Test.YtabpdiekmljceaaDoorUnfWalks
import Derived.Test.YtabpdiekmljceaaDoorMarkEq
namespace Go.Proofs.YtabpdiekmljceaaDoor
open Go.RowKit
set_option linter.unusedVariables false

/-- A row of texts stays where another row, of a higher block, was written. -/
theorem TextRow.grown {w w' : World} {v u : Value} {xs : List ByteArray} {B e n : Nat} {ys : List Value} (h : TextRow w v xs) (hv : ∀ g, v.ownBlock = some g → xs = [] ∨ g < B) (hu : w.ownsRow B e 1 u n ys) (hg : w.grownBy w' u.ownBlock) : TextRow w' v xs := by
  rcases h with h | ⟨g, c, rfl, hgl, hc⟩
  · exact .inl h
  · rcases hv g rfl with rfl | hlt
    · exact .inl ⟨_, _, rfl, rfl⟩
    · refine .inr ⟨g, c, rfl, Nat.lt_of_lt_of_le hgl hg.size, fun i hi => ?_⟩
      rw [hg.cell_far ⟨g, i, none⟩ hgl (fun hh => by have := (hu.lt g hh.symm).1; omega)]
      exact hc i hi
theorem MaxIn.below {w w' : World} (h : MaxIn w) (hw : 0 < w.heap.size) (hb : Below w.heap.size w w') : MaxIn w' := by
  obtain ⟨m, hm⟩ := h
  exact ⟨m, (hb.cell (p := ⟨0, 0, none⟩) hw).trans hm⟩

theorem fnExactUnitsIn_walk (a0 : ByteArray) (w0 : a0.size ≤ maxLen) (w : World) (hmax : MaxIn w) (hwsz : 0 < w.heap.size) :
    Calls Tryd.prog 5 #[.string a0] w fun e w' => e = .returned (.bool true) ∧ Below w.heap.size w w' := by
  have hm := w0
  unfold maxLen at hm
  by_cases h1 : 1048576 < a0.size
  · go_enter Tryd.func5, Tryd.ntmps5
    go_wp2
    go_ret
    exact ⟨rfl, Below.refl _ _⟩
  · obtain ⟨L, hL⟩ : ∃ L, L = unitsOf (nums a0) := ⟨_, rfl⟩
    have hlen : L.length ≤ 400 := by rw [hL]; exact unitsOf_length _
    have htl : (L.map strOfNums).length = L.length := by simp
    have S11 : Hid (∀ W, Calls Tryd.prog 17 #[.string a0] W fun e w' => ∃ v, e = .returned v ∧ w'.ownsRow W.heap.size 9 1 v L.length ((L.map strOfNums).map Value.string) ∧ Below W.heap.size W w') := fun W => by
      rw [hL]; exact specUnitsIn a0 W (by omega)
    have S12 : Hid (∀ W, Below w.heap.size w W → Calls Tryd.prog 12 #[.string a0] W fun e w' => ∃ v, e = .returned v ∧ w'.ownsRow W.heap.size 9 1 v L.length ((L.map strOfNums).map Value.string) ∧ Below W.heap.size W w') := fun W hb => by
      rw [hL]; exact implUnitsIn a0 W (by omega) (hmax.below hwsz hb) (Nat.lt_of_lt_of_le hwsz hb.size)
    clear hL w0 hmax hwsz
    go_enter Tryd.func5, Tryd.ntmps5
    go_wp2_with fail
    refine (S11.out _).mono ?_
    rintro e w1 ⟨v0, rfl, ho0, hb1⟩
    go_wp2_with fail
    refine (S12.out _ hb1).mono ?_
    rintro e w2 ⟨v1, rfl, ho1, hb2⟩
    have r0 := (textRow_of_owns ho0).below hb2 (Nat.le_refl _)
    have r1 := textRow_of_owns ho1
    go_wp2_with fail
    refine (eqStringS_any v1 v0 _ _ r1 r0 (by omega)).mono ?_
    rintro e w3 ⟨rfl, hb3⟩
    have ho1' := owns_below ho1 hb3 (Nat.le_refl _)
    have r0' := r0.below hb3 (Nat.le_refl _)
    go_wp2_with fail
    refine (markStringS_any v1 L.length _ _ _ ho1' (by omega)).mono ?_
    rintro e w4 ⟨rfl, ho1m, hg4⟩
    have r0m := r0'.grown (B := w1.heap.size) (fun g hg => .inr (by have := (ho0.lt g hg).2; omega)) ho1' hg4
    have r1m := textRow_of_owns ho1m
    have s1 := hb1.size
    have s2 := hb2.size
    have s3 := hb3.size
    have s4 := hg4.size
    have b3 : Below w.heap.size w w3 := (hb1.trans (hb2.mono s1)).trans (hb3.mono (by omega))
    have b4 : Below w.heap.size w w4 := b3.grown hg4 (by omega) (fun j hj => by have := (ho1'.lt j hj).1; omega)
    go_wp2_with fail
    refine (heldStringS_any v1 L.length _ r1m (by omega)).mono ?_
    rintro e w5 ⟨rfl, hb5⟩
    have r0n := r0m.below hb5 (Nat.le_refl _)
    have r1n := r1m.below hb5 (Nat.le_refl _)
    have b5 := b4.trans (hb5.mono (by omega))
    go_wp2_with fail
    refine (S12.out _ b5).mono ?_
    rintro e w6 ⟨v2, rfl, ho2, hb6⟩
    have r0o := r0n.below hb6 (Nat.le_refl _)
    have r1o := r1n.below hb6 (Nat.le_refl _)
    go_wp2_with fail
    refine (eqStringS_any v2 v0 _ _ (textRow_of_owns ho2) r0o (by omega)).mono ?_
    rintro e w7 ⟨rfl, hb7⟩
    have r1p := r1o.below hb7 (Nat.le_refl _)
    go_wp2_with fail
    refine (heldStringS_any v1 L.length _ r1p (by omega)).mono ?_
    rintro e w8 ⟨rfl, hb8⟩
    go_wp2
    go_ret
    have s5 := hb5.size
    have s6 := hb6.size
    have s7 := hb7.size
    exact ⟨rfl, ((b5.trans (hb6.mono (by omega))).trans (hb7.mono (by omega))).trans (hb8.mono (by omega))⟩

theorem unfL_length (s : ByteArray) : (unfL s).length ≤ 400 := by
  unfold unfL
  split
  · exact unitsOf_length _
  · simp
theorem fnExactUnframed_walk (a0 : ByteArray) (w0 : a0.size ≤ maxLen) (w : World) (hmax : MaxIn w) (hwsz : 0 < w.heap.size) :
    Calls Tryd.prog 4 #[.string a0] w fun e w' => e = .returned (.bool true) ∧ Below w.heap.size w w' := by
  have hm := w0
  unfold maxLen at hm
  by_cases h1 : 1048576 < a0.size
  · go_enter Tryd.func4, Tryd.ntmps4
    go_wp2
    go_ret
    exact ⟨rfl, Below.refl _ _⟩
  · obtain ⟨L, hL⟩ : ∃ L, L = unfL a0 := ⟨_, rfl⟩
    obtain ⟨b, hbv⟩ : ∃ b, b = unfB a0 := ⟨_, rfl⟩
    have hlen : L.length ≤ 400 := by rw [hL]; exact unfL_length _
    have htl : (L.map strOfNums).length = L.length := by simp
    have S11 : Hid (∀ W, Calls Tryd.prog 13 #[.string a0] W fun e w' => ∃ v, e = .returned (.tuple #[v, .bool b]) ∧ w'.ownsRow W.heap.size 9 1 v L.length ((L.map strOfNums).map Value.string) ∧ Below W.heap.size W w') := fun W => by
      rw [hL, hbv]; exact specUnframed a0 W (by omega)
    have S12 : Hid (∀ W, Below w.heap.size w W → Calls Tryd.prog 10 #[.string a0] W fun e w' => ∃ v, e = .returned (.tuple #[v, .bool b]) ∧ w'.ownsRow W.heap.size 9 1 v L.length ((L.map strOfNums).map Value.string) ∧ Below W.heap.size W w') := fun W hb => by
      rw [hL, hbv]; exact implUnframed a0 W (by omega) (hmax.below hwsz hb) (Nat.lt_of_lt_of_le hwsz hb.size)
    clear hL hbv w0 hmax hwsz
    go_enter Tryd.func4, Tryd.ntmps4
    go_wp2_with fail
    refine (S11.out _).mono ?_
    rintro e w1 ⟨v0, rfl, ho0, hb1⟩
    go_wp2_with fail
    refine (S12.out _ hb1).mono ?_
    rintro e w2 ⟨v1, rfl, ho1, hb2⟩
    have r0 := (textRow_of_owns ho0).below hb2 (Nat.le_refl _)
    have r1 := textRow_of_owns ho1
    go_wp2_with fail
    refine (eqStringS_any v1 v0 _ _ r1 r0 (by omega)).mono ?_
    rintro e w3 ⟨rfl, hb3⟩
    have ho1' := owns_below ho1 hb3 (Nat.le_refl _)
    have r0' := r0.below hb3 (Nat.le_refl _)
    go_wp2_with fail
    refine (markStringS_any v1 L.length _ _ _ ho1' (by omega)).mono ?_
    rintro e w4 ⟨rfl, ho1m, hg4⟩
    have r0m := r0'.grown (B := w1.heap.size) (fun g hg => .inr (by have := (ho0.lt g hg).2; omega)) ho1' hg4
    have r1m := textRow_of_owns ho1m
    have s1 := hb1.size
    have s2 := hb2.size
    have s3 := hb3.size
    have s4 := hg4.size
    have b3 : Below w.heap.size w w3 := (hb1.trans (hb2.mono s1)).trans (hb3.mono (by omega))
    have b4 : Below w.heap.size w w4 := b3.grown hg4 (by omega) (fun j hj => by have := (ho1'.lt j hj).1; omega)
    go_wp2_with fail
    refine (heldStringS_any v1 L.length _ r1m (by omega)).mono ?_
    rintro e w5 ⟨rfl, hb5⟩
    have r0n := r0m.below hb5 (Nat.le_refl _)
    have r1n := r1m.below hb5 (Nat.le_refl _)
    have b5 := b4.trans (hb5.mono (by omega))
    go_wp2_with fail
    refine (S12.out _ b5).mono ?_
    rintro e w6 ⟨v2, rfl, ho2, hb6⟩
    have r0o := r0n.below hb6 (Nat.le_refl _)
    have r1o := r1n.below hb6 (Nat.le_refl _)
    go_wp2_with fail
    refine (eqStringS_any v2 v0 _ _ (textRow_of_owns ho2) r0o (by omega)).mono ?_
    rintro e w7 ⟨rfl, hb7⟩
    have r1p := r1o.below hb7 (Nat.le_refl _)
    go_wp2_with fail
    refine (heldStringS_any v1 L.length _ r1p (by omega)).mono ?_
    rintro e w8 ⟨rfl, hb8⟩
    go_wp2
    go_ret
    have s5 := hb5.size
    have s6 := hb6.size
    have s7 := hb7.size
    exact ⟨rfl, ((b5.trans (hb6.mono (by omega))).trans (hb7.mono (by omega))).trans (hb8.mono (by omega))⟩
end Go.Proofs.YtabpdiekmljceaaDoor
