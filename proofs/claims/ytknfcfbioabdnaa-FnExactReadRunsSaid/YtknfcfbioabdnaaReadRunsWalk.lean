/-
  The walk of laws.FnExactReadRuns.
-/
import Derived.Test.YtknfcfbioabdnaaRunsAt
import Derived.Test.YtknfcfbioabdnaaMarkInts
namespace Go.Proofs.Ytknfcfbioabdnaa
open Go.RowKit
set_option linter.unusedVariables false
set_option maxRecDepth 20000

theorem ansL_le {n : Int} {F : Nat → Option (Int × Nat)} {s : ByteArray} {a : Int} : (ansL n.toNat (rdSt F s a n)).length ≤ 64 := by
  by_cases h : placeB s a = true ∧ (n = 16 ∨ n = 64)
  · cases rdSt F s a n with
    | none => simp [ansL]
    | some st =>
      obtain ⟨g, k, e⟩ := st
      show (listF n.toNat g).length ≤ 64
      rw [listF_length]
      omega
  · rw [rdSt_no h]
    simp [ansL]

set_option maxHeartbeats 1600000 in
theorem fnExactReadRuns_walk (s : ByteArray) (a n : Int) (w : World) (hm : s.size ≤ maxLen) :
    Calls Try.prog 9 #[.string s, .int .i64 a, .int .i64 n] w fun e w' => e = .returned (.bool true) ∧ Below w.heap.size w w' := by
  have hm' := hm
  unfold maxLen at hm'
  by_cases hbig : 1048576 < s.size
  · go_enter Try.func9, Try.ntmps9
    go_wp2
    go_ret
    exact ⟨rfl, Below.refl _ _⟩
  obtain ⟨F, hF⟩ := isCnt_exists s
  have hZn : (ansL n.toNat (rdSt F s a n)).length ≤ 64 := ansL_le
  have CS : Hid (∀ w', Calls Try.prog 30 #[.string s, .int .i64 a, .int .i64 n] w' (fun e w'' => (∃ v, e = .returned (.tuple #[v, .int .i64 (ansE (rdSt F s a n)), .bool (ansY (rdSt F s a n))]) ∧ w''.ownsRow w'.heap.size 3 1 v (ansL n.toNat (rdSt F s a n)).length ((ansL n.toNat (rdSt F s a n)).map (Value.int .i64))) ∧ Below w'.heap.size w' w'')) := fun w' => specReadRuns hF a n w' hm
  have CI : Hid (∀ w', Calls Try.prog 20 #[.string s, .int .i64 a, .int .i64 n] w' (fun e w'' => (∃ v, e = .returned (.tuple #[v, .int .i64 (ansE (rdSt F s a n)), .bool (ansY (rdSt F s a n))]) ∧ w''.ownsRow w'.heap.size 3 1 v (ansL n.toNat (rdSt F s a n)).length ((ansL n.toNat (rdSt F s a n)).map (Value.int .i64))) ∧ Below w'.heap.size w' w'')) := fun w' => implReadRuns hF a n w' hm
  clear hF
  generalize ansE (rdSt F s a n) = E at *
  generalize ansY (rdSt F s a n) = Y at *
  generalize ansL n.toNat (rdSt F s a n) = Z at *
  have n64 : (Z.length : Int) ≤ 64 := by omega
  go_enter Try.func9, Try.ntmps9
  go_wp2_with fail
  refine (CS.out w).mono ?_
  rintro e w1 ⟨⟨v, rfl, ho⟩, hb1⟩
  obtain ⟨pw, cw, rfl, iw, _⟩ := ints_of_owns ho
  have IW : Hid (∀ w', Below w1.heap.size w1 w' → Ints w' pw Z) := fun w' hb => iw.below hb (Nat.le_refl _)
  clear ho iw CS
  go_wp2_with fail
  refine (CI.out w1).mono ?_
  rintro e w2 ⟨⟨v, rfl, ho⟩, hc2⟩
  have hb2 := hb1.trans (hc2.mono hb1.size)
  obtain ⟨pg, cg, rfl, ig, _⟩ := ints_of_owns ho
  have HG2 : Hid (w2.ownsRow w1.heap.size 3 1 (.slice pg Z.length cg) Z.length (Z.map (Value.int .i64))) := ho
  have hs1 := hb1.size
  clear ho hb1
  go_wp2_with fail
  refine (eqIntS_any _ _ _ _ Z w2 ig (IW.out w2 hc2) (by omega)).mono ?_
  rintro e w3 ⟨rfl, hc⟩
  have hb3 := hb2.trans (hc.mono hb2.size)
  have hc3 := hc2.trans (hc.mono hc2.size)
  have HG3 : Hid (w3.ownsRow w1.heap.size 3 1 (.slice pg Z.length cg) Z.length (Z.map (Value.int .i64))) := owned_below HG2.out hc
  clear hc hb2 hc2 HG2 ig
  go_wp2_with fail
  refine (markIntS_any pg cg w1.heap.size Z 1 w3 HG3.out (by omega) (by omega) (by omega)).mono ?_
  rintro e w4 ⟨rfl, ho, hg⟩
  have hb4 : Below w.heap.size w w4 := hb3.grown hg hb3.size (fun g hgb => Nat.le_trans hs1 (HG3.out.lt g hgb).1)
  have hc4 : Below w1.heap.size w1 w4 := hc3.grown hg hc3.size (fun g hgb => (HG3.out.lt g hgb).1)
  have IM : Hid (∀ w', Below w4.heap.size w4 w' → Ints w' pg (marksI 1 Z.length)) := fun w' hb => by
    have hm := marksI_length 1 Z.length
    have := owned_at (xs := marksI 1 Z.length) (p := pg) (c := cg) (by rw [hm]; exact ho)
    exact this.below hb (Nat.le_refl _)
  clear ho hg hb3 hc3 HG3
  go_wp2_with fail
  refine (heldIntS_any pg Z.length cg 1 w4 (IM.out w4 (Below.refl _ _)) (by omega) (by omega) (by omega)).mono ?_
  rintro e w5 ⟨rfl, hw⟩
  subst w5
  go_wp2_with fail
  refine (CI.out w4).mono ?_
  rintro e w6 ⟨⟨v, rfl, ho⟩, hd6⟩
  have hb6 := hb4.trans (hd6.mono hb4.size)
  have hc6 := hc4.trans (hd6.mono hc4.size)
  obtain ⟨p6, c6, rfl, i6, _⟩ := ints_of_owns ho
  clear ho hb4 hc4
  go_wp2_with fail
  refine (eqIntS_any _ _ _ _ Z w6 i6 (IW.out w6 hc6) (by omega)).mono ?_
  rintro e w7 ⟨rfl, hc⟩
  have hb7 := hb6.trans (hc.mono hb6.size)
  have hd7 := hd6.trans (hc.mono hd6.size)
  clear hc hb6 hd6 i6 hc6
  go_wp2_with fail
  refine (heldIntS_any pg Z.length cg 1 w7 (IM.out w7 hd7) (by omega) (by omega) (by omega)).mono ?_
  rintro e w8 ⟨rfl, hw⟩
  subst w8
  go_wp2
  go_ret
  exact ⟨rfl, hb7⟩
end Go.Proofs.Ytknfcfbioabdnaa
