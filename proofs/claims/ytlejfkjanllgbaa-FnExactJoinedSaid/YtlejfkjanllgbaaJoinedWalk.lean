/-
  The walk of laws.FnExactJoined.
-/
import Derived.Test.YtlejfkjanllgbaaJoinKit
import Derived.Test.YtlejfkjanllgbaaMarkInts
import Derived.Test.YtlejfkjanllgbaaOwnCap
namespace Go.Proofs.Ytlejfkjanllgbaa
open Go.RowKit
set_option linter.unusedVariables false
set_option maxRecDepth 20000

/-- A row that is not the one that was written stays. -/
theorem kept_beside {w w' : World} {B e s n : Nat} {v u : Value} {xs : List Value} (h : w.ownsRow B e s v n xs) (hg : w.grownBy w' u.ownBlock) (hne : ∀ k, u.ownBlock = some k → v.ownBlock ≠ some k) : w'.ownsRow B e s v n xs := h.kept hg (by
  cases hq : v.ownBlock with
  | none => exact .inl rfl
  | some g => exact .inr (fun e => hne g e.symm hq))

set_option maxHeartbeats 1600000 in
theorem fnExactJoined_walk (a : Option Addr) (xs : List Int) (cap : Nat) (b : Option Addr) (ys : List Int) (cap2 : Nat) (w : World) (h : Ints w a xs) (hl : xs.length ≤ maxLen) (h2 : Ints w b ys) (hl2 : ys.length ≤ maxLen) :
    Calls Try.prog 5 #[.slice a xs.length cap, .slice b ys.length cap2] w fun e w' => e = .returned (.bool true) ∧ Below w.heap.size w w' := by
  have hl' := hl
  have hl2' := hl2
  unfold maxLen at hl' hl2'
  by_cases k1 : 1048576 < xs.length
  · go_enter Try.func5, Try.ntmps5
    go_wp2
    go_ret
    exact ⟨rfl, Below.refl _ _⟩
  by_cases k2 : 1048576 < ys.length
  · go_enter Try.func5, Try.ntmps5
    go_wp2
    go_ret
    exact ⟨rfl, Below.refl _ _⟩
  have j1 : xs.length ≤ 1048576 := by omega
  have j2 : ys.length ≤ 1048576 := by omega
  have H : Hid (∀ w', Below w.heap.size w w' → Ints w' a xs) := fun w' hb => h.below hb (Nat.le_refl _)
  have H2 : Hid (∀ w', Below w.heap.size w w' → Ints w' b ys) := fun w' hb => h2.below hb (Nat.le_refl _)
  obtain ⟨Z, hZ⟩ : ∃ Z, joinL xs ys = Z := ⟨_, rfl⟩
  have hZn : Z.length ≤ 64 := by rw [← hZ]; exact joinL_le xs ys
  have CS : Hid (∀ (p q : Option Addr) (c d : Nat) (w' : World), Ints w' p xs → Ints w' q ys → Calls Try.prog 13 #[.slice p xs.length c, .slice q ys.length d] w' (fun e w'' => (∃ v, e = .returned v ∧ w''.ownsRow w'.heap.size 3 1 v Z.length (Z.map (Value.int .i64))) ∧ Below w'.heap.size w' w'')) := fun p q c d w' hi hj => by
    have := specJoined p q c d xs ys w' hi hj hl hl2
    rwa [hZ] at this
  have CI : Hid (∀ (p q : Option Addr) (c d : Nat) (w' : World), Ints w' p xs → Ints w' q ys → Calls Try.prog 9 #[.slice p xs.length c, .slice q ys.length d] w' (fun e w'' => (∃ v, e = .returned v ∧ w''.ownsRow w'.heap.size 3 1 v Z.length (Z.map (Value.int .i64))) ∧ Below w'.heap.size w' w'')) := fun p q c d w' hi hj => by
    have := implJoined p q c d xs ys w' hi hj hl hl2
    rwa [hZ] at this
  have CT : Hid (∀ w', Below w.heap.size w w' → Calls Try.prog 14 #[.slice a xs.length cap] w' (fun e w'' => (∃ v, e = .returned v ∧ w''.ownsRow w'.heap.size 3 1 v xs.length (xs.map (Value.int .i64))) ∧ Below w'.heap.size w' w'')) := fun w' hb => by
    refine (toIntS_any a cap xs w' (H.out w' hb) j1).mono ?_
    rintro e w'' ⟨v, rfl, ho, hc⟩
    exact ⟨⟨v, rfl, ho⟩, hc⟩
  have CU : Hid (∀ w', Below w.heap.size w w' → Calls Try.prog 14 #[.slice b ys.length cap2] w' (fun e w'' => (∃ v, e = .returned v ∧ w''.ownsRow w'.heap.size 3 1 v ys.length (ys.map (Value.int .i64))) ∧ Below w'.heap.size w' w'')) := fun w' hb => by
    refine (toIntS_any b cap2 ys w' (H2.out w' hb) j2).mono ?_
    rintro e w'' ⟨v, rfl, ho, hc⟩
    exact ⟨⟨v, rfl, ho⟩, hc⟩
  clear hZ h hl h2 hl2 k1 k2
  have n64 : (Z.length : Int) ≤ 64 := by omega
  have nxs : (xs.length : Int) ≤ 1048576 := by omega
  have nys : (ys.length : Int) ≤ 1048576 := by omega
  go_enter Try.func5, Try.ntmps5
  go_wp2_with fail
  refine (CT.out w (Below.refl _ _)).mono ?_
  rintro e w1 ⟨⟨v, rfl, ho⟩, hb1⟩
  obtain ⟨p1, c1, rfl, i1, _⟩ := ints_of_owns ho
  have I1 : Hid (∀ w', Below w1.heap.size w1 w' → Ints w' p1 xs) := fun w' hb => i1.below hb (Nat.le_refl _)
  clear ho i1
  go_wp2_with fail
  refine (CU.out w1 hb1).mono ?_
  rintro e w2 ⟨⟨v, rfl, ho⟩, hc⟩
  have hb2 := hb1.trans (hc.mono hb1.size)
  obtain ⟨p2, c2, rfl, i2, _⟩ := ints_of_owns ho
  have i1 := I1.out w2 hc
  clear ho hc hb1 I1
  go_wp2_with fail
  refine (CS.out _ _ _ _ w2 i1 i2).mono ?_
  rintro e w3 ⟨⟨v, rfl, ho⟩, hc⟩
  have hb3 := hb2.trans (hc.mono hb2.size)
  obtain ⟨pw, cw, rfl, iw, _⟩ := ints_of_owns ho
  have IW : Hid (∀ w', Below w3.heap.size w3 w' → Ints w' pw Z) := fun w' hb => iw.below hb (Nat.le_refl _)
  clear ho hc hb2 i1 i2 iw CS
  go_wp2_with fail
  refine (CT.out w3 hb3).mono ?_
  rintro e w4 ⟨⟨v, rfl, ho⟩, hc4⟩
  have hb4 := hb3.trans (hc4.mono hb3.size)
  obtain ⟨px, cx, rfl, ix, _⟩ := ints_of_owns ho
  have HX4 : Hid (w4.ownsRow w3.heap.size 3 1 (.slice px xs.length cx) xs.length (xs.map (Value.int .i64))) := ho
  clear ho ix
  go_wp2_with fail
  refine (CU.out w4 hb4).mono ?_
  rintro e w5 ⟨⟨v, rfl, ho⟩, hc⟩
  have hb5 := hb4.trans (hc.mono hb4.size)
  have hc5 := hc4.trans (hc.mono hc4.size)
  obtain ⟨py, cy, rfl, iy, _⟩ := ints_of_owns ho
  have HX5 : Hid (w5.ownsRow w3.heap.size 3 1 (.slice px xs.length cx) xs.length (xs.map (Value.int .i64))) := owned_below HX4.out hc
  have HXl : Hid (∀ g, (Value.slice px xs.length cx).ownBlock = some g → g < w4.heap.size) := fun g hg => (HX4.out.lt g hg).2
  have HY5 : Hid (w5.ownsRow w4.heap.size 3 1 (.slice py ys.length cy) ys.length (ys.map (Value.int .i64))) := ho
  have hs4 := hc4.size
  have hs5 := hc.size
  clear ho hc hb4 hc4 HX4 iy
  go_wp2_with fail
  refine (CI.out _ _ _ _ w5 (owned_at HX5.out) (owned_at HY5.out)).mono ?_
  rintro e w6 ⟨⟨v, rfl, ho⟩, hc⟩
  have hb6 := hb5.trans (hc.mono hb5.size)
  have hc6 := hc5.trans (hc.mono hc5.size)
  obtain ⟨pg, cg, rfl, ig, _⟩ := ints_of_owns ho
  have R6 : Hid (w6.ownsRow w3.heap.size 3 1 (.slice px xs.length cx) xs.length (xs.map (Value.int .i64)) ∧ w6.ownsRow w4.heap.size 3 1 (.slice py ys.length cy) ys.length (ys.map (Value.int .i64)) ∧ w6.ownsRow w5.heap.size 3 1 (.slice pg Z.length cg) Z.length (Z.map (Value.int .i64))) := ⟨owned_below HX5.out hc, owned_below HY5.out hc, ho⟩
  have HYl : Hid (∀ g, (Value.slice py ys.length cy).ownBlock = some g → g < w5.heap.size) := fun g hg => (HY5.out.lt g hg).2
  clear ho hc HX5 HY5 hb5 hc5
  go_wp2_with fail
  refine (eqIntS_any _ _ _ _ Z w6 ig (IW.out w6 hc6) (by omega)).mono ?_
  rintro e w7 ⟨rfl, hc⟩
  have hb7 := hb6.trans (hc.mono hb6.size)
  have hc7 := hc6.trans (hc.mono hc6.size)
  have R7 : Hid (_ ∧ _ ∧ _) := ⟨owned_below R6.out.1 hc, owned_below R6.out.2.1 hc, owned_below R6.out.2.2 hc⟩
  clear hc hb6 hc6 R6 ig
  go_wp2_with fail
  refine (CT.out w7 hb7).mono ?_
  rintro e w8 ⟨⟨v, rfl, ho⟩, hc⟩
  have hb8 := hb7.trans (hc.mono hb7.size)
  have hc8 := hc7.trans (hc.mono hc7.size)
  obtain ⟨p8, c8, rfl, i8, _⟩ := ints_of_owns ho
  have R8 : Hid (_ ∧ _ ∧ _) := ⟨owned_below R7.out.1 hc, owned_below R7.out.2.1 hc, owned_below R7.out.2.2 hc⟩
  clear ho hc hb7 hc7 R7
  go_wp2_with fail
  refine (eqIntS_any _ _ _ _ xs w8 (owned_at R8.out.1) i8 (by omega)).mono ?_
  rintro e w9 ⟨rfl, hc⟩
  have hb9 := hb8.trans (hc.mono hb8.size)
  have hc9 := hc8.trans (hc.mono hc8.size)
  have R9 : Hid (_ ∧ _ ∧ _) := ⟨owned_below R8.out.1 hc, owned_below R8.out.2.1 hc, owned_below R8.out.2.2 hc⟩
  clear hc hb8 hc8 R8 i8
  go_wp2_with fail
  refine (CU.out w9 hb9).mono ?_
  rintro e w10 ⟨⟨v, rfl, ho⟩, hc⟩
  have hb10 := hb9.trans (hc.mono hb9.size)
  have hc10 := hc9.trans (hc.mono hc9.size)
  obtain ⟨p8, c8, rfl, i8, _⟩ := ints_of_owns ho
  have R10 : Hid (_ ∧ _ ∧ _) := ⟨owned_below R9.out.1 hc, owned_below R9.out.2.1 hc, owned_below R9.out.2.2 hc⟩
  clear ho hc hb9 hc9 R9
  go_wp2_with fail
  refine (eqIntS_any _ _ _ _ ys w10 (owned_at R10.out.2.1) i8 (by omega)).mono ?_
  rintro e w11 ⟨rfl, hc⟩
  have hb11 := hb10.trans (hc.mono hb10.size)
  have hc11 := hc10.trans (hc.mono hc10.size)
  have R11 : Hid (_ ∧ _ ∧ _) := ⟨owned_below R10.out.1 hc, owned_below R10.out.2.1 hc, owned_below R10.out.2.2 hc⟩
  clear hc hb10 hc10 R10 i8
  go_wp2_with fail
  refine (markIntS_any px cx w3.heap.size xs 1 w11 R11.out.1 (by omega) (by omega) (by omega)).mono ?_
  rintro e w12 ⟨rfl, _, hg⟩
  have hb12 : Below w.heap.size w w12 := hb11.grown hg hb11.size (fun g hgb => Nat.le_trans hb3.size (R11.out.1.lt g hgb).1)
  have hc12 : Below w3.heap.size w3 w12 := hc11.grown hg hc11.size (fun g hgb => (R11.out.1.lt g hgb).1)
  have R12 : Hid (_ ∧ _) := ⟨kept_beside R11.out.2.1 hg (fun g h1 h2 => by have e1 := HXl.out g h1; have e2 := (R11.out.2.1.lt g h2).1; omega), kept_beside R11.out.2.2 hg (fun g h1 h2 => by have e1 := HXl.out g h1; have e2 := (R11.out.2.2.lt g h2).1; omega)⟩
  clear hg hb11 hc11 R11 HXl
  go_wp2_with fail
  refine (markIntS_any py cy w4.heap.size ys (1 + (xs.length : Int)) w12 R12.out.1 (by omega) (by omega) (by omega)).mono ?_
  rintro e w13 ⟨rfl, _, hg⟩
  have hb13 : Below w.heap.size w w13 := hb12.grown hg hb12.size (fun g hgb => Nat.le_trans hb3.size (Nat.le_trans hs4 (R12.out.1.lt g hgb).1))
  have hc13 : Below w3.heap.size w3 w13 := hc12.grown hg hc12.size (fun g hgb => Nat.le_trans hs4 (R12.out.1.lt g hgb).1)
  have HG13 : Hid (w13.ownsRow w5.heap.size 3 1 (.slice pg Z.length cg) Z.length (Z.map (Value.int .i64))) := kept_beside R12.out.2 hg (fun g h1 h2 => by have e1 := HYl.out g h1; have e2 := (R12.out.2.lt g h2).1; omega)
  clear hg hb12 hc12 R12 HYl
  go_wp2_with fail
  refine (eqIntS_any _ _ _ _ Z w13 (owned_at HG13.out) (IW.out w13 hc13) (by omega)).mono ?_
  rintro e w14 ⟨rfl, hc⟩
  have hb14 := hb13.trans (hc.mono hb13.size)
  have hc14 := hc13.trans (hc.mono hc13.size)
  have HG14 : Hid (w14.ownsRow w5.heap.size 3 1 (.slice pg Z.length cg) Z.length (Z.map (Value.int .i64))) := owned_below HG13.out hc
  clear hc hb13 hc13 HG13
  go_wp2_with fail
  refine (markIntS_any pg cg w5.heap.size Z 1 w14 HG14.out (by omega) (by omega) (by omega)).mono ?_
  rintro e w15 ⟨rfl, ho, hg⟩
  have hb15 : Below w.heap.size w w15 := hb14.grown hg hb14.size (fun g hgb => Nat.le_trans hb3.size (Nat.le_trans hs4 (Nat.le_trans hs5 (HG14.out.lt g hgb).1)))
  have hc15 : Below w3.heap.size w3 w15 := hc14.grown hg hc14.size (fun g hgb => Nat.le_trans hs4 (Nat.le_trans hs5 (HG14.out.lt g hgb).1))
  have IM : Hid (∀ w', Below w15.heap.size w15 w' → Ints w' pg (marksI 1 Z.length)) := fun w' hb => by
    have hm := marksI_length 1 Z.length
    have := owned_at (xs := marksI 1 Z.length) (p := pg) (c := cg) (by rw [hm]; exact ho)
    exact this.below hb (Nat.le_refl _)
  clear ho hg hb14 hc14 HG14
  go_wp2_with fail
  refine (heldIntS_any pg Z.length cg 1 w15 (IM.out w15 (Below.refl _ _)) (by omega) (by omega) (by omega)).mono ?_
  rintro e w16 ⟨rfl, hw⟩
  subst w16
  go_wp2_with fail
  refine (CT.out w15 hb15).mono ?_
  rintro e w17 ⟨⟨v, rfl, ho⟩, hc⟩
  have hb17 := hb15.trans (hc.mono hb15.size)
  have hc17 := hc15.trans (hc.mono hc15.size)
  have hd17 : Below w15.heap.size w15 w17 := hc
  obtain ⟨p1, c1, rfl, i1, _⟩ := ints_of_owns ho
  have I1 : Hid (∀ w', Below w17.heap.size w17 w' → Ints w' p1 xs) := fun w' hb => i1.below hb (Nat.le_refl _)
  clear ho hc hc15 hb15 i1
  go_wp2_with fail
  refine (CU.out w17 hb17).mono ?_
  rintro e w18 ⟨⟨v, rfl, ho⟩, hc⟩
  have hb18 := hb17.trans (hc.mono hb17.size)
  have hc18 := hc17.trans (hc.mono hc17.size)
  have hd18 := hd17.trans (hc.mono hd17.size)
  obtain ⟨p2, c2, rfl, i2, _⟩ := ints_of_owns ho
  have i1 := I1.out w18 hc
  clear ho hc hb17 hc17 hd17 I1
  go_wp2_with fail
  refine (CI.out _ _ _ _ w18 i1 i2).mono ?_
  rintro e w19 ⟨⟨v, rfl, ho⟩, hc⟩
  have hb19 := hb18.trans (hc.mono hb18.size)
  have hc19 := hc18.trans (hc.mono hc18.size)
  have hd19 := hd18.trans (hc.mono hd18.size)
  obtain ⟨p3, c3, rfl, i3, _⟩ := ints_of_owns ho
  clear ho hc hc18 hb18 hd18 i1 i2
  go_wp2_with fail
  refine (eqIntS_any _ _ _ _ Z w19 i3 (IW.out w19 hc19) (by omega)).mono ?_
  rintro e w20 ⟨rfl, hc⟩
  have hb20 := hb19.trans (hc.mono hb19.size)
  have hd20 := hd19.trans (hc.mono hd19.size)
  clear hc hb19 hd19 i3 hc19
  go_wp2_with fail
  refine (heldIntS_any pg Z.length cg 1 w20 (IM.out w20 hd20) (by omega) (by omega) (by omega)).mono ?_
  rintro e w21 ⟨rfl, hw⟩
  subst w21
  go_wp2
  go_ret
  exact ⟨rfl, hb20⟩
end Go.Proofs.Ytlejfkjanllgbaa
