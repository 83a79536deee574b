/-
  The walk of laws.FnExactUnscanned: a number and a list of numbers in, a list of numbers and a flag out.
-/
import Derived.Test.YtknfcfbioabdnaaScanAny
import Derived.Test.YtknfcfbioabdnaaScanLists
import Derived.Test.YtknfcfbioabdnaaMarkInts
import Derived.Test.YtknfcfbioabdnaaOwnCap
namespace Go.Proofs.Ytknfcfbioabdnaa
open Go.RowKit
set_option linter.unusedVariables false
set_option maxRecDepth 20000

set_option maxHeartbeats 1600000 in
theorem fnExactUnscanned_walk (s : Int) (a : Option Addr) (cap : Nat) (xs : List Int) (w : World) (h : Ints w a xs) (hl : xs.length ≤ maxLen) :
    Calls Try.prog 7 #[.int .i64 s, .slice a xs.length cap] w fun e w' => e = .returned (.bool true) ∧ Below w.heap.size w w' := by
  have hl' := hl
  unfold maxLen at hl'
  by_cases k1 : 1048576 < xs.length
  · go_enter Try.func7, Try.ntmps7
    go_wp2
    go_ret
    exact ⟨rfl, Below.refl _ _⟩
  have j1 : xs.length ≤ 1048576 := by omega
  have H : Hid (∀ w', Below w.heap.size w w' → Ints w' a xs) := fun w' hb => h.below hb (Nat.le_refl _)
  obtain ⟨Z, hZ⟩ : ∃ Z, backL s xs = Z := ⟨_, rfl⟩
  obtain ⟨y, hy⟩ : ∃ y, scOk s xs = y := ⟨_, rfl⟩
  have hZn : Z.length ≤ 64 := by rw [← hZ]; exact backL_le s xs
  have CS : Hid (∀ (p : Option Addr) (c : Nat) (w' : World), Ints w' p xs → Calls Try.prog 28 #[.int .i64 s, .slice p xs.length c] w' (fun e w'' => (∃ v, e = .returned (.tuple #[v, .bool y]) ∧ w''.ownsRow w'.heap.size 3 1 v Z.length (Z.map (Value.int .i64))) ∧ Below w'.heap.size w' w'')) := fun p c w' hi => by
    have := specUnscanned s p c xs w' hi hl
    rwa [hZ, hy] at this
  have CI : Hid (∀ (p : Option Addr) (c : Nat) (w' : World), Ints w' p xs → xs.length ≤ c → Calls Try.prog 15 #[.int .i64 s, .slice p xs.length c] w' (fun e w'' => (∃ v, e = .returned (.tuple #[v, .bool y]) ∧ w''.ownsRow w'.heap.size 3 1 v Z.length (Z.map (Value.int .i64))) ∧ Below w'.heap.size w' w'')) := fun p c w' hi hc => by
    have := implUnscanned s p c xs w' hi hl
    rwa [hZ, hy] at this
  have CT : Hid (∀ w', Below w.heap.size w w' → Calls Try.prog 24 #[.slice a xs.length cap] w' (fun e w'' => (∃ v, e = .returned v ∧ w''.ownsRow w'.heap.size 3 1 v xs.length (xs.map (Value.int .i64))) ∧ Below w'.heap.size w' w'')) := fun w' hb => by
    refine (toIntS_any a cap xs w' (H.out w' hb) j1).mono ?_
    rintro e w'' ⟨v, rfl, ho, hc⟩
    exact ⟨⟨v, rfl, ho⟩, hc⟩
  clear hZ hy h hl k1
  have n64 : (Z.length : Int) ≤ 64 := by omega
  have nxs : (xs.length : Int) ≤ 1048576 := by omega
  go_enter Try.func7, Try.ntmps7
  go_wp2_with fail
  refine (CT.out w (Below.refl _ _)).mono ?_
  rintro e w1 ⟨⟨v, rfl, ho⟩, hb1⟩
  obtain ⟨p1, c1, rfl, i1, _⟩ := ints_of_owns ho
  clear ho
  go_wp2_with fail
  refine (CS.out _ _ w1 i1).mono ?_
  rintro e w2 ⟨⟨v, rfl, ho⟩, hc⟩
  have hb2 := hb1.trans (hc.mono hb1.size)
  obtain ⟨pw, cw, rfl, iw, _⟩ := ints_of_owns ho
  have IW : Hid (∀ w', Below w2.heap.size w2 w' → Ints w' pw Z) := fun w' hb => iw.below hb (Nat.le_refl _)
  clear ho hc hb1 i1 iw CS
  go_wp2_with fail
  refine (CT.out w2 hb2).mono ?_
  rintro e w3 ⟨⟨v, rfl, ho⟩, hc3⟩
  have hb3 := hb2.trans (hc3.mono hb2.size)
  obtain ⟨px, cx, rfl, ix, _⟩ := ints_of_owns ho
  have hcx' := owned_cap ho
  have HO : Hid (w3.ownsRow w2.heap.size 3 1 (.slice px xs.length cx) xs.length (xs.map (Value.int .i64))) := ho
  clear ho
  go_wp2_with fail
  refine (CI.out _ _ w3 ix hcx').mono ?_
  rintro e w4 ⟨⟨v, rfl, ho⟩, hc⟩
  have hb4 := hb3.trans (hc.mono hb3.size)
  have hc4 := hc3.trans (hc.mono hc3.size)
  obtain ⟨pg, cg, rfl, ig, _⟩ := ints_of_owns ho
  have HO4 : Hid (w4.ownsRow w2.heap.size 3 1 (.slice px xs.length cx) xs.length (xs.map (Value.int .i64))) := HO.out.kept (grown_of_below hc none) (by
    cases hq : (Value.slice px xs.length cx).ownBlock with
    | none => exact .inl rfl
    | some g => exact .inr (by simp))
  have HX4 : Hid (∀ g, (Value.slice px xs.length cx).ownBlock = some g → g < w3.heap.size) := fun g hg => (HO.out.lt g hg).2
  have HG4 : Hid (w4.ownsRow w3.heap.size 3 1 (.slice pg Z.length cg) Z.length (Z.map (Value.int .i64))) := ho
  have hs3 := hc3.size
  clear ho hc HO hb3 hc3 ix
  go_wp2_with fail
  refine (eqIntS_any _ _ _ _ Z w4 ig (IW.out w4 hc4) (by omega)).mono ?_
  rintro e w5 ⟨rfl, hc⟩
  have hb5 := hb4.trans (hc.mono hb4.size)
  have hc5 := hc4.trans (hc.mono hc4.size)
  have HO5 : Hid (w5.ownsRow w2.heap.size 3 1 (.slice px xs.length cx) xs.length (xs.map (Value.int .i64))) := owned_below HO4.out hc
  have HG5 : Hid (w5.ownsRow w3.heap.size 3 1 (.slice pg Z.length cg) Z.length (Z.map (Value.int .i64))) := owned_below HG4.out hc
  clear hc hb4 hc4 HO4 HG4 ig
  go_wp2_with fail
  refine (CT.out w5 hb5).mono ?_
  rintro e w6 ⟨⟨v, rfl, ho⟩, hc⟩
  have hb6 := hb5.trans (hc.mono hb5.size)
  have hc6 := hc5.trans (hc.mono hc5.size)
  obtain ⟨p6, c6, rfl, i6, _⟩ := ints_of_owns ho
  have HO6 : Hid (w6.ownsRow w2.heap.size 3 1 (.slice px xs.length cx) xs.length (xs.map (Value.int .i64))) := owned_below HO5.out hc
  have HG6 : Hid (w6.ownsRow w3.heap.size 3 1 (.slice pg Z.length cg) Z.length (Z.map (Value.int .i64))) := owned_below HG5.out hc
  clear ho hc hb5 hc5 HO5 HG5
  go_wp2_with fail
  refine (eqIntS_any _ _ _ _ xs w6 (owned_at HO6.out) i6 (by omega)).mono ?_
  rintro e w7 ⟨rfl, hc⟩
  have hb7 := hb6.trans (hc.mono hb6.size)
  have hc7 := hc6.trans (hc.mono hc6.size)
  have HO7 : Hid (w7.ownsRow w2.heap.size 3 1 (.slice px xs.length cx) xs.length (xs.map (Value.int .i64))) := owned_below HO6.out hc
  have HG7 : Hid (w7.ownsRow w3.heap.size 3 1 (.slice pg Z.length cg) Z.length (Z.map (Value.int .i64))) := owned_below HG6.out hc
  clear hc hb6 hc6 HO6 HG6 i6
  go_wp2_with fail
  refine (markIntS_any px cx w2.heap.size xs 1 w7 HO7.out (by omega) (by omega) (by omega)).mono ?_
  rintro e w8 ⟨rfl, _, hg⟩
  have hb8 : Below w.heap.size w w8 := hb7.grown hg hb7.size (fun g hgb => Nat.le_trans hb2.size (HO7.out.lt g hgb).1)
  have hc8 : Below w2.heap.size w2 w8 := hc7.grown hg hc7.size (fun g hgb => (HO7.out.lt g hgb).1)
  have HG8 : Hid (w8.ownsRow w3.heap.size 3 1 (.slice pg Z.length cg) Z.length (Z.map (Value.int .i64))) := HG7.out.kept hg (by
    cases hq : (Value.slice pg Z.length cg).ownBlock with
    | none => exact .inl rfl
    | some g => exact .inr (fun e => by
        have h1 := (HG7.out.lt g hq).1
        have h2 := HX4.out g e.symm
        omega))
  clear hg hb7 hc7 HO7 HG7 HX4
  go_wp2_with fail
  refine (eqIntS_any _ _ _ _ Z w8 (owned_at HG8.out) (IW.out w8 hc8) (by omega)).mono ?_
  rintro e w9 ⟨rfl, hc⟩
  have hb9 := hb8.trans (hc.mono hb8.size)
  have hc9 := hc8.trans (hc.mono hc8.size)
  have HG9 : Hid (w9.ownsRow w3.heap.size 3 1 (.slice pg Z.length cg) Z.length (Z.map (Value.int .i64))) := owned_below HG8.out hc
  clear hc hb8 hc8 HG8
  go_wp2_with fail
  refine (markIntS_any pg cg w3.heap.size Z 1 w9 HG9.out (by omega) (by omega) (by omega)).mono ?_
  rintro e w10 ⟨rfl, ho, hg⟩
  have hb10 : Below w.heap.size w w10 := hb9.grown hg hb9.size (fun g hgb => Nat.le_trans hb2.size (Nat.le_trans hs3 (HG9.out.lt g hgb).1))
  have hc10 : Below w2.heap.size w2 w10 := hc9.grown hg hc9.size (fun g hgb => Nat.le_trans hs3 (HG9.out.lt g hgb).1)
  have IM : Hid (∀ w', Below w10.heap.size w10 w' → Ints w' pg (marksI 1 Z.length)) := fun w' hb => by
    have hm := marksI_length 1 Z.length
    have := owned_at (xs := marksI 1 Z.length) (p := pg) (c := cg) (by rw [hm]; exact ho)
    exact this.below hb (Nat.le_refl _)
  clear ho hg hb9 hc9 HG9
  go_wp2_with fail
  refine (heldIntS_any pg Z.length cg 1 w10 (IM.out w10 (Below.refl _ _)) (by omega) (by omega) (by omega)).mono ?_
  rintro e w11 ⟨rfl, hw⟩
  subst w11
  go_wp2_with fail
  refine (CT.out w10 hb10).mono ?_
  rintro e w12 ⟨⟨v, rfl, ho⟩, hc⟩
  have hb12 := hb10.trans (hc.mono hb10.size)
  have hc12 := hc10.trans (hc.mono hc10.size)
  have hd12 : Below w10.heap.size w10 w12 := hc
  obtain ⟨p12, c12, rfl, i12, _⟩ := ints_of_owns ho
  have hcx2 := owned_cap ho
  clear ho hc hc10 hb10
  go_wp2_with fail
  refine (CI.out _ _ w12 i12 hcx2).mono ?_
  rintro e w13 ⟨⟨v, rfl, ho⟩, hc⟩
  have hb13 := hb12.trans (hc.mono hb12.size)
  have hc13 := hc12.trans (hc.mono hc12.size)
  have hd13 := hd12.trans (hc.mono hd12.size)
  obtain ⟨p13, c13, rfl, i13, _⟩ := ints_of_owns ho
  clear ho hc hc12 hb12 hd12 i12
  go_wp2_with fail
  refine (eqIntS_any _ _ _ _ Z w13 i13 (IW.out w13 hc13) (by omega)).mono ?_
  rintro e w14 ⟨rfl, hc⟩
  have hb14 := hb13.trans (hc.mono hb13.size)
  have hd14 := hd13.trans (hc.mono hd13.size)
  clear hc hb13 hd13 i13 hc13
  go_wp2_with fail
  refine (heldIntS_any pg Z.length cg 1 w14 (IM.out w14 hd14) (by omega) (by omega) (by omega)).mono ?_
  rintro e w15 ⟨rfl, hw⟩
  subst w15
  go_wp2
  go_ret
  exact ⟨rfl, hb14⟩
end Go.Proofs.Ytknfcfbioabdnaa
