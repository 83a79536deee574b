/-
  The walk of laws.FnExactReadLevels.
-/
import Derived.Test.YtlejfkjanllgbaaDoorLeftReads
import Derived.Test.YtlejfkjanllgbaaDoorIntAll
import Derived.Test.YtlejfkjanllgbaaDoorStepAll
namespace Go.Proofs.YtlejfkjanllgbaaDoor
open Go.RowKit
set_option linter.unusedVariables false
set_option maxRecDepth 20000

set_option maxHeartbeats 1600000 in
theorem fnExactReadLevels_walk (s : ByteArray) (a : Int) (k : Bool) (q : Int) (g x : Bool) (w : World) (tsc : TabC w 0 scL) (tsh : TabC w 2 shL) (tkd : TabC w 1 kdL) (hm : s.size ≤ maxLen) :
    Calls Tryd.prog 6 #[.string s, .int .i64 a, conV k q g x] w fun e w' => e = .returned (.bool true) ∧ Below w.heap.size w w' := by
  clear tsc tsh tkd
  have B0 := Blk.new w #[.bool k, .int .i64 q, .bool g, .bool x] 33
  have hb0 := (Below.refl w.heap.size w).alloc (Nat.le_refl _) (.cells #[.bool k, .int .i64 q, .bool g, .bool x] 33)
  have hm' := hm
  unfold maxLen at hm'
  by_cases hbig : 1048576 < s.size
  · go_enter Tryd.func6, Tryd.ntmps6
    go_wp2
    go_ret
    exact ⟨rfl, hb0⟩
  obtain ⟨F, hF⟩ := isCnt_exists s
  have hZn : (lsL (lrSt F s a q g x)).length ≤ 64 := lsL_le _
  have CC : Hid (∀ w', Calls Tryd.prog 16 #[conV k q g x] w' fun e w'' => e = .returned (conV k q g x) ∧ Below w'.heap.size w' w'') := fun w' => toCond_any k q g x w'
  have CS : Hid (∀ w', Calls Tryd.prog 21 #[.string s, .int .i64 a, conV k q g x] w' (fun e w'' => (∃ v, e = .returned (.tuple #[v, .int .i64 (lsE (lrSt F s a q g x)), .bool (lsY (lrSt F s a q g x))]) ∧ w''.ownsRow w'.heap.size 3 1 v (lsL (lrSt F s a q g x)).length ((lsL (lrSt F s a q g x)).map (Value.int .i64))) ∧ Below w'.heap.size w' w'')) := fun w' => specReadLevels hF a k q g x w' hm
  have CI : Hid (∀ w', Calls Tryd.prog 22 #[.string s, .int .i64 a, conV k q g x] w' (fun e w'' => (∃ v, e = .returned (.tuple #[v, .int .i64 (lsE (lrSt F s a q g x)), .bool (lsY (lrSt F s a q g x))]) ∧ w''.ownsRow w'.heap.size 3 1 v (lsL (lrSt F s a q g x)).length ((lsL (lrSt F s a q g x)).map (Value.int .i64))) ∧ Below w'.heap.size w' w'')) := fun w' => implReadLevels hF a k q g x w' hm
  clear hF
  generalize lsE (lrSt F s a q g x) = E at *
  generalize lsY (lrSt F s a q g x) = Y at *
  generalize lsL (lrSt F s a q g x) = Z at *
  have n64 : (Z.length : Int) ≤ 64 := by omega
  go_enter Tryd.func6, Tryd.ntmps6
  go_wp2_with fail
  generalize World.alloc w _ = V at *
  have BK : Hid (∀ w', Below V.heap.size V w' → (w'.cell? ⟨w.heap.size, 0, none⟩ = some (.bool k) ∧ w'.cell? ⟨w.heap.size, 1, none⟩ = some (.int .i64 q) ∧ w'.cell? ⟨w.heap.size, 2, none⟩ = some (.bool g) ∧ w'.cell? ⟨w.heap.size, 3, none⟩ = some (.bool x))) := fun w' h => (B0.below h B0.lt).four.1
  clear B0
  have hbs := hb0.size
  refine (CC.out V).mono ?_
  rintro e w01 ⟨rfl, hv1⟩
  have hb01 := hb0.trans (hv1.mono hbs)
  go_wp2_with fail
  refine (CS.out w01).mono ?_
  rintro e w1 ⟨⟨v, rfl, ho⟩, hc⟩
  have hb1 := hb01.trans (hc.mono hb01.size)
  have hv2 := hv1.trans (hc.mono hv1.size)
  clear hc hb01 hv1
  obtain ⟨x0, x1, x2, x3⟩ := BK.out w1 hv2
  obtain ⟨pw, cw, rfl, iw, _⟩ := ints_of_owns ho
  have IW : Hid (∀ w', Below w1.heap.size w1 w' → Ints w' pw Z) := fun w' hb => iw.below hb (Nat.le_refl _)
  clear ho iw CS
  go_wp2_with fail
  refine (CC.out w1).mono ?_
  rintro e w11 ⟨rfl, hc1⟩
  have hb11 := hb1.trans (hc1.mono hb1.size)
  clear x0 x1 x2 x3
  go_wp2_with fail
  refine (CI.out w11).mono ?_
  rintro e w2 ⟨⟨v, rfl, ho⟩, hcx⟩
  have hc2 := hc1.trans (hcx.mono hc1.size)
  have hb2 := hb1.trans (hc2.mono hb1.size)
  obtain ⟨pg, cg, rfl, ig, _⟩ := ints_of_owns ho
  have HG2 : Hid (w2.ownsRow w1.heap.size 3 1 (.slice pg Z.length cg) Z.length (Z.map (Value.int .i64))) := own_mono ho hc1.size
  have hs1 := hb1.size
  clear ho hcx hc1 hb11
  go_wp2_with fail
  refine (eqIntS_any _ _ _ _ Z w2 ig (IW.out w2 hc2) (by omega)).mono ?_
  rintro e w3 ⟨rfl, hc⟩
  have hb3 := hb2.trans (hc.mono hb2.size)
  have hc3 := hc2.trans (hc.mono hc2.size)
  have HG3 : Hid (w3.ownsRow w1.heap.size 3 1 (.slice pg Z.length cg) Z.length (Z.map (Value.int .i64))) := owned_below HG2.out hc
  clear hc hb2 hc2 HG2 ig
  go_wp2_with fail
  refine (markIntS_any pg cg w1.heap.size Z 1 w3 HG3.out (by omega) (by omega) (by omega)).mono ?_
  rintro e w4 ⟨rfl, ho, hg⟩
  have hb4 : Below w.heap.size w w4 := hb3.grown hg hb3.size (fun g hgb => Nat.le_trans hs1 (HG3.out.lt g hgb).1)
  have hc4 : Below w1.heap.size w1 w4 := hc3.grown hg hc3.size (fun g hgb => (HG3.out.lt g hgb).1)
  have IM : Hid (∀ w', Below w4.heap.size w4 w' → Ints w' pg (marksI 1 Z.length)) := fun w' hb => by
    have hm := marksI_length 1 Z.length
    have := owned_at (xs := marksI 1 Z.length) (p := pg) (c := cg) (by rw [hm]; exact ho)
    exact this.below hb (Nat.le_refl _)
  clear ho hg hb3 hc3 HG3
  go_wp2_with fail
  refine (heldIntS_any pg Z.length cg 1 w4 (IM.out w4 (Below.refl _ _)) (by omega) (by omega) (by omega)).mono ?_
  rintro e w5 ⟨rfl, hw⟩
  subst w5
  obtain ⟨x0, x1, x2, x3⟩ := BK.out w4 (hv2.trans (hc4.mono hv2.size))
  go_wp2_with fail
  refine (CC.out w4).mono ?_
  rintro e w41 ⟨rfl, hd1⟩
  clear x0 x1 x2 x3
  go_wp2_with fail
  refine (CI.out w41).mono ?_
  rintro e w6 ⟨⟨v, rfl, ho⟩, hcx⟩
  have hd6 := hd1.trans (hcx.mono hd1.size)
  have hb6 := hb4.trans (hd6.mono hb4.size)
  have hc6 := hc4.trans (hd6.mono hc4.size)
  obtain ⟨p6, c6, rfl, i6, _⟩ := ints_of_owns ho
  clear ho hb4 hc4 hcx hd1
  go_wp2_with fail
  refine (eqIntS_any _ _ _ _ Z w6 i6 (IW.out w6 hc6) (by omega)).mono ?_
  rintro e w7 ⟨rfl, hc⟩
  have hb7 := hb6.trans (hc.mono hb6.size)
  have hd7 := hd6.trans (hc.mono hd6.size)
  clear hc hb6 hd6 i6 hc6
  go_wp2_with fail
  refine (heldIntS_any pg Z.length cg 1 w7 (IM.out w7 hd7) (by omega) (by omega) (by omega)).mono ?_
  rintro e w8 ⟨rfl, hw⟩
  subst w8
  go_wp2
  go_ret
  exact ⟨rfl, hb7⟩
end Go.Proofs.YtlejfkjanllgbaaDoor
