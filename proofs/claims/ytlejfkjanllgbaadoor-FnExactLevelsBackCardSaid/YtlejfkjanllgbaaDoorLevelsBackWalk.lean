/-
  The walk of laws.FnExactLevelsBack: a list of numbers and a condition in, a list of numbers and a yes or no out.
-/
import Derived.Test.YtlejfkjanllgbaaDoorLeftTopsAll
import Derived.Test.YtlejfkjanllgbaaDoorLeftSpecB
import Derived.Test.YtlejfkjanllgbaaDoorIntAll
import Derived.Deep.RegionHeld3
import Derived.Deep.CutRange
namespace Go.Proofs.YtlejfkjanllgbaaDoor
open Go.RowKit
set_option linter.unusedVariables false
set_option maxRecDepth 20000

set_option maxHeartbeats 3200000 in
theorem fnExactLevelsBack_walk (a : Option Addr) (xs : List Int) (cap : Nat) (k : Bool) (q : Int) (g x : Bool) (w : World) (tsc : TabC w 0 scL) (tsh : TabC w 2 shL) (tkd : TabC w 1 kdL) (h : Ints w a xs) (hl : xs.length ≤ maxLen) :
    Calls Tryd.prog 5 #[.slice a xs.length cap, conV k q g x] w fun e w' => e = .returned (.bool true) ∧ Below w.heap.size w w' := by
  have B0 := Blk.new w #[.bool k, .int .i64 q, .bool g, .bool x] 33
  have hb0 := (Below.refl w.heap.size w).alloc (Nat.le_refl _) (.cells #[.bool k, .int .i64 q, .bool g, .bool x] 33)
  have hl' := hl
  unfold maxLen at hl'
  by_cases k1 : 1048576 < xs.length
  · go_enter Tryd.func5, Tryd.ntmps5
    go_wp2
    go_ret
    exact ⟨rfl, hb0⟩
  have j1 : xs.length ≤ 1048576 := by omega
  have H : Hid (∀ w', Below w.heap.size w w' → Ints w' a xs) := fun w' hb => h.below hb (Nat.le_refl _)
  have ht : Tabs w := ⟨tsc, tsh, tkd⟩
  obtain ⟨Z, hZ⟩ : ∃ Z, lbkL q g x xs = Z := ⟨_, rfl⟩
  obtain ⟨Y, hY⟩ : ∃ Y, lvB 5000 q g x xs = Y := ⟨_, rfl⟩
  have hZn : Z.length ≤ 64 := by rw [← hZ]; exact lbkL_le q g x xs
  have CS : Hid (∀ (p : Option Addr) (c : Nat) (w' : World), Ints w' p xs → xs.length ≤ c → Calls Tryd.prog 20 #[.slice p xs.length c, conV k q g x] w' (fun e w'' => (∃ v, e = .returned (.tuple #[v, .bool Y]) ∧ w''.ownsRow w'.heap.size 3 1 v Z.length (Z.map (Value.int .i64))) ∧ Below w'.heap.size w' w'')) := fun p c w' hi hc => by
    have := specLevelsBack p c xs k q g x w' hi hl hc
    rwa [hZ, hY] at this
  have CI : Hid (∀ (p : Option Addr) (c : Nat) (w' : World), Below w.heap.size w w' → Ints w' p xs → xs.length ≤ c → Calls Tryd.prog 11 #[.slice p xs.length c, conV k q g x] w' (fun e w'' => (∃ v, e = .returned (.tuple #[v, .bool Y]) ∧ w''.ownsRow w'.heap.size 3 1 v Z.length (Z.map (Value.int .i64))) ∧ Below w'.heap.size w' w'')) := fun p c w' hb hi hc => by
    have := implLevelsBack p c xs k q g x w' hi hl hc (ht.below hb)
    rwa [hZ, hY] at this
  have CT : Hid (∀ w', Below w.heap.size w w' → Calls Tryd.prog 15 #[.slice a xs.length cap] w' (fun e w'' => (∃ v, e = .returned v ∧ w''.ownsRow w'.heap.size 3 1 v xs.length (xs.map (Value.int .i64))) ∧ Below w'.heap.size w' w'')) := fun w' hb => by
    refine (toIntS_any a cap xs w' (H.out w' hb) j1).mono ?_
    rintro e w'' ⟨v, rfl, ho, hc⟩
    exact ⟨⟨v, rfl, ho⟩, hc⟩
  have CC : Hid (∀ w', Calls Tryd.prog 16 #[conV k q g x] w' fun e w'' => e = .returned (conV k q g x) ∧ Below w'.heap.size w' w'') := fun w' => toCond_any k q g x w'
  clear hZ hY h hl k1 ht tsc tsh tkd
  have n64 : (Z.length : Int) ≤ 64 := by omega
  have nxs : (xs.length : Int) ≤ 1048576 := by omega
  go_enter Tryd.func5, Tryd.ntmps5
  go_wp2_with fail
  have hbs := hb0.size
  generalize World.alloc w _ = V at *
  have BK : Hid (∀ w', Below V.heap.size V w' → (w'.cell? ⟨w.heap.size, 0, none⟩ = some (.bool k) ∧ w'.cell? ⟨w.heap.size, 1, none⟩ = some (.int .i64 q) ∧ w'.cell? ⟨w.heap.size, 2, none⟩ = some (.bool g) ∧ w'.cell? ⟨w.heap.size, 3, none⟩ = some (.bool x))) := fun w' h => (B0.below h B0.lt).four.1
  clear B0
  have hbV := Below.refl V.heap.size V
  obtain ⟨x0, x1, x2, x3⟩ := BK.out V hbV
  go_cut [5, 6] from 18 to 25 (fun u v wc => ∃ p c, u = .slice p Z.length c ∧ v = .bool Y ∧ Ints wc p Z ∧ Below V.heap.size V wc)
  case first =>
    go_region_held3 (fun w' => w'.cell? ⟨w.heap.size, 0, none⟩ = some (.bool k) ∧ w'.cell? ⟨w.heap.size, 1, none⟩ = some (.int .i64 q) ∧ w'.cell? ⟨w.heap.size, 2, none⟩ = some (.bool g) ∧ w'.cell? ⟨w.heap.size, 3, none⟩ = some (.bool x))
      (first | (with_reducible exact hS) | go_keep)
      (first
        | (go_at_call 15; refine (CT.out _ hb0.drew).mono ?_; rintro e wA ⟨⟨v, rfl, ho⟩, hcA⟩; obtain ⟨pA, cA, rfl, iA, _⟩ := ints_of_owns ho; have hcap := owned_cap ho; have hbA : Below V.heap.size V wA := hbV.drew.trans hcA; have hS := BK.out wA hbA; clear ho)
        | (go_at_call 16; refine (CC.out _).mono ?_; rintro e wB ⟨rfl, hcB⟩; have iB := iA.below hcB (Nat.le_refl _); have hbB : Below V.heap.size V wB := hbA.trans (hcB.mono hbA.size); have hS := BK.out wB hbB)
        | (go_at_call 20; refine (CS.out _ _ _ iB hcap).mono ?_; rintro e wC ⟨⟨v, rfl, ho⟩, hcC⟩; obtain ⟨pC, cC, rfl, iC, _⟩ := ints_of_owns ho; have hbC : Below V.heap.size V wC := hbB.trans (hcC.mono hbB.size); have hS := BK.out wC hbC; clear ho))
    all_goals
      go_wp2_with fail
      go_meet
      exact ⟨_, _, rfl, rfl, iC, hbC⟩
  case rest =>
  obtain ⟨pw, cw, rfl, rfl, iw, hb1⟩ := hcut
  clear x0 x1 x2 x3
  generalize wc = w2 at *
  have hb2 := hb0.trans (hb1.mono hbs)
  have IW : Hid (∀ w', Below w2.heap.size w2 w' → Ints w' pw Z) := fun w' hb => iw.below hb (Nat.le_refl _)
  clear iw CS
  go_wp2_with fail
  refine (CT.out w2 hb2).mono ?_
  rintro e w3 ⟨⟨v, rfl, ho⟩, hc3⟩
  have hb3 := hb2.trans (hc3.mono hb2.size)
  obtain ⟨px, cx, rfl, ix, _⟩ := ints_of_owns ho
  have hcx' := owned_cap ho
  have HO : Hid (w3.ownsRow w2.heap.size 3 1 (.slice px xs.length cx) xs.length (xs.map (Value.int .i64))) := ho
  obtain ⟨x0, x1, x2, x3⟩ := BK.out w3 (hb1.trans (hc3.mono hb1.size))
  clear ho
  go_wp2_with fail
  refine (CC.out w3).mono ?_
  rintro e w30 ⟨rfl, hc⟩
  have hc30 := hc3.trans (hc.mono hc3.size)
  have hb30 := hb3.trans (hc.mono hb3.size)
  have ix0 := ix.below hc (Nat.le_refl _)
  have HO3 : Hid (w30.ownsRow w2.heap.size 3 1 (.slice px xs.length cx) xs.length (xs.map (Value.int .i64))) := owned_below HO.out hc
  have HX4 : Hid (∀ g, (Value.slice px xs.length cx).ownBlock = some g → g < w30.heap.size) := fun g hg => (HO3.out.lt g hg).2
  clear hc x0 x1 x2 x3 HO ix hc3 hb3
  go_wp2_with fail
  refine (CI.out _ _ w30 hb30 ix0 hcx').mono ?_
  rintro e w4 ⟨⟨v, rfl, ho⟩, hc⟩
  have hb4 := hb30.trans (hc.mono hb30.size)
  have hc4 := hc30.trans (hc.mono hc30.size)
  obtain ⟨pg, cg, rfl, ig, _⟩ := ints_of_owns ho
  have HO4 : Hid (w4.ownsRow w2.heap.size 3 1 (.slice px xs.length cx) xs.length (xs.map (Value.int .i64))) := owned_below HO3.out hc
  have HG4 : Hid (w4.ownsRow w30.heap.size 3 1 (.slice pg Z.length cg) Z.length (Z.map (Value.int .i64))) := ho
  have hs3 := hc30.size
  clear ho hc HO3 hb30 hc30 ix0
  go_wp2_with fail
  refine (eqIntS_any _ _ _ _ Z w4 ig (IW.out w4 hc4) (by omega)).mono ?_
  rintro e w5 ⟨rfl, hc⟩
  have hb5 := hb4.trans (hc.mono hb4.size)
  have hc5 := hc4.trans (hc.mono hc4.size)
  have HO5 : Hid (w5.ownsRow w2.heap.size 3 1 (.slice px xs.length cx) xs.length (xs.map (Value.int .i64))) := owned_below HO4.out hc
  have HG5 : Hid (w5.ownsRow w30.heap.size 3 1 (.slice pg Z.length cg) Z.length (Z.map (Value.int .i64))) := owned_below HG4.out hc
  clear hc hb4 hc4 HO4 HG4 ig
  go_wp2_with fail
  refine (CT.out w5 hb5).mono ?_
  rintro e w6 ⟨⟨v, rfl, ho⟩, hc⟩
  have hb6 := hb5.trans (hc.mono hb5.size)
  have hc6 := hc5.trans (hc.mono hc5.size)
  obtain ⟨p6, c6, rfl, i6, _⟩ := ints_of_owns ho
  have HO6 : Hid (w6.ownsRow w2.heap.size 3 1 (.slice px xs.length cx) xs.length (xs.map (Value.int .i64))) := owned_below HO5.out hc
  have HG6 : Hid (w6.ownsRow w30.heap.size 3 1 (.slice pg Z.length cg) Z.length (Z.map (Value.int .i64))) := owned_below HG5.out hc
  clear ho hc hb5 hc5 HO5 HG5
  go_wp2_with fail
  refine (eqIntS_any _ _ _ _ xs w6 (owned_at HO6.out) i6 (by omega)).mono ?_
  rintro e w7 ⟨rfl, hc⟩
  have hb7 := hb6.trans (hc.mono hb6.size)
  have hc7 := hc6.trans (hc.mono hc6.size)
  have HO7 : Hid (w7.ownsRow w2.heap.size 3 1 (.slice px xs.length cx) xs.length (xs.map (Value.int .i64))) := owned_below HO6.out hc
  have HG7 : Hid (w7.ownsRow w30.heap.size 3 1 (.slice pg Z.length cg) Z.length (Z.map (Value.int .i64))) := owned_below HG6.out hc
  clear hc hb6 hc6 HO6 HG6 i6
  go_wp2_with fail
  refine (markIntS_any px cx w2.heap.size xs 1 w7 HO7.out (by omega) (by omega) (by omega)).mono ?_
  rintro e w8 ⟨rfl, _, hg⟩
  have hb8 : Below w.heap.size w w8 := hb7.grown hg hb7.size (fun g hgb => Nat.le_trans hb2.size (HO7.out.lt g hgb).1)
  have hc8 : Below w2.heap.size w2 w8 := hc7.grown hg hc7.size (fun g hgb => (HO7.out.lt g hgb).1)
  have HG8 : Hid (w8.ownsRow w30.heap.size 3 1 (.slice pg Z.length cg) Z.length (Z.map (Value.int .i64))) := HG7.out.kept hg (by
    cases hq : (Value.slice pg Z.length cg).ownBlock with
    | none => exact .inl rfl
    | some g => exact .inr (fun e => by
        have h1 := (HG7.out.lt g hq).1
        have h2 := HX4.out g e.symm
        omega))
  clear hg hb7 hc7 HO7 HG7 HX4
  go_wp2_with fail
  refine (eqIntS_any _ _ _ _ Z w8 (owned_at HG8.out) (IW.out w8 hc8) (by omega)).mono ?_
  rintro e w9 ⟨rfl, hc⟩
  have hb9 := hb8.trans (hc.mono hb8.size)
  have hc9 := hc8.trans (hc.mono hc8.size)
  have HG9 : Hid (w9.ownsRow w30.heap.size 3 1 (.slice pg Z.length cg) Z.length (Z.map (Value.int .i64))) := owned_below HG8.out hc
  clear hc hb8 hc8 HG8
  go_wp2_with fail
  refine (markIntS_any pg cg w30.heap.size Z 1 w9 HG9.out (by omega) (by omega) (by omega)).mono ?_
  rintro e w10 ⟨rfl, ho, hg⟩
  have hb10 : Below w.heap.size w w10 := hb9.grown hg hb9.size (fun g hgb => Nat.le_trans hb2.size (Nat.le_trans hs3 (HG9.out.lt g hgb).1))
  have hc10 : Below w2.heap.size w2 w10 := hc9.grown hg hc9.size (fun g hgb => Nat.le_trans hs3 (HG9.out.lt g hgb).1)
  have IM : Hid (∀ w', Below w10.heap.size w10 w' → Ints w' pg (marksI 1 Z.length)) := fun w' hb => by
    have hm := marksI_length 1 Z.length
    have := owned_at (xs := marksI 1 Z.length) (p := pg) (c := cg) (by rw [hm]; exact ho)
    exact this.below hb (Nat.le_refl _)
  clear ho hg hb9 hc9 HG9
  go_wp2_with fail
  refine (heldIntS_any pg Z.length cg 1 w10 (IM.out w10 (Below.refl _ _)) (by omega) (by omega) (by omega)).mono ?_
  rintro e w11 ⟨rfl, hw⟩
  subst w11
  have hd10 := Below.refl w10.heap.size w10
  obtain ⟨x0, x1, x2, x3⟩ := BK.out w10 (hb1.trans (hc10.mono hb1.size))
  go_wp2_with fail
  go_cut [13, 14] from 76 to 83 (fun u v wc => ∃ p c, u = .slice p Z.length c ∧ v = .bool Y ∧ Ints wc p Z ∧ Below w10.heap.size w10 wc)
  case first =>
    have BL : Hid (∀ w', Below w10.heap.size w10 w' → (w'.cell? ⟨w.heap.size, 0, none⟩ = some (.bool k) ∧ w'.cell? ⟨w.heap.size, 1, none⟩ = some (.int .i64 q) ∧ w'.cell? ⟨w.heap.size, 2, none⟩ = some (.bool g) ∧ w'.cell? ⟨w.heap.size, 3, none⟩ = some (.bool x))) := fun w' h => BK.out w' ((hb1.trans (hc10.mono hb1.size)).trans (h.mono (hb1.trans (hc10.mono hb1.size)).size))
    go_region_held3 (fun w' => w'.cell? ⟨w.heap.size, 0, none⟩ = some (.bool k) ∧ w'.cell? ⟨w.heap.size, 1, none⟩ = some (.int .i64 q) ∧ w'.cell? ⟨w.heap.size, 2, none⟩ = some (.bool g) ∧ w'.cell? ⟨w.heap.size, 3, none⟩ = some (.bool x))
      (first | (with_reducible exact hS) | go_keep)
      (first
        | (go_at_call 15; refine (CT.out _ hb10.drew).mono ?_; rintro e wA ⟨⟨v, rfl, ho⟩, hcA⟩; obtain ⟨pA, cA, rfl, iA, _⟩ := ints_of_owns ho; have hcap := owned_cap ho; have hbA : Below w10.heap.size w10 wA := hd10.drew.trans hcA; have hS := BL.out wA hbA; clear ho)
        | (go_at_call 16; refine (CC.out _).mono ?_; rintro e wB ⟨rfl, hcB⟩; have iB := iA.below hcB (Nat.le_refl _); have hbB : Below w10.heap.size w10 wB := hbA.trans (hcB.mono hbA.size); have hS := BL.out wB hbB)
        | (go_at_call 11; refine (CI.out _ _ _ (hb10.trans (hbB.mono hb10.size)) iB hcap).mono ?_; rintro e wC ⟨⟨v, rfl, ho⟩, hcC⟩; obtain ⟨pC, cC, rfl, iC, _⟩ := ints_of_owns ho; have hbC : Below w10.heap.size w10 wC := hbB.trans (hcC.mono hbB.size); have hS := BL.out wC hbC; clear ho))
    all_goals
      go_wp2_with fail
      go_meet
      exact ⟨_, _, rfl, rfl, iC, hbC⟩
  case rest =>
  obtain ⟨p13, c13, rfl, rfl, i13, hd13⟩ := hcut
  clear x0 x1 x2 x3
  generalize wc = w13 at *
  have hb13 := hb10.trans (hd13.mono hb10.size)
  have hc13 := hc10.trans (hd13.mono hc10.size)
  go_wp2_with fail
  refine (eqIntS_any _ _ _ _ Z w13 i13 (IW.out w13 hc13) (by omega)).mono ?_
  rintro e w14 ⟨rfl, hc⟩
  have hb14 := hb13.trans (hc.mono hb13.size)
  have hd14 := hd13.trans (hc.mono hd13.size)
  clear hc hb13 hd13 i13 hc13
  go_wp2_with fail
  refine (heldIntS_any pg Z.length cg 1 w14 (IM.out w14 hd14) (by omega) (by omega) (by omega)).mono ?_
  rintro e w15 ⟨rfl, hw⟩
  subst w15
  go_wp2
  go_ret
  exact ⟨rfl, hb14⟩
end Go.Proofs.YtlejfkjanllgbaaDoor
