/-
  The walk of laws.FnExactBlockOf.
-/
import Derived.Test.YtpodpfdbklffgaaBlockKit
import Derived.Test.YtpodpfdbklffgaaMarkInts
import Derived.Test.YtpodpfdbklffgaaOwnCap
namespace Go.Proofs.Ytpodpfdbklffgaa
open Go.RowKit
set_option linter.unusedVariables false
set_option maxRecDepth 20000

set_option maxHeartbeats 3200000 in
theorem fnExactBlockOf_walk (W H : Int) (s : ByteArray) (x y : Int) (w : World) (hs : s.size ≤ maxLen) :
    Calls Try.prog 8 #[picV W H s, .int .i64 x, .int .i64 y] w fun e w' => e = .returned (.bool true) ∧ Below w.heap.size w w' := by
  have CS0 := fun w' => specBlockOf W H s x y w'
  have CI0 := fun w' => implBlockOf W H s x y w'
  have hZ0 : (blockL W H s x y).length ≤ 64 := by
    unfold blockL
    split
    · rw [listF_length]; omega
    · simp
  generalize blockL W H s x y = Z at *
  have CS : Hid (∀ w', Calls Try.prog 28 #[picV W H s, .int .i64 x, .int .i64 y] w' (fun e w'' => (∃ v, e = .returned v ∧ w''.ownsRow w'.heap.size 3 1 v Z.length (Z.map (Value.int .i64))) ∧ Below w'.heap.size w' w'')) := CS0
  have CI : Hid (∀ w', Calls Try.prog 20 #[picV W H s, .int .i64 x, .int .i64 y] w' (fun e w'' => (∃ v, e = .returned v ∧ w''.ownsRow w'.heap.size 3 1 v Z.length (Z.map (Value.int .i64))) ∧ Below w'.heap.size w' w'')) := CI0
  clear CS0 CI0
  have n64 : (Z.length : Int) ≤ 64 := by omega
  go_enter Try.func8, Try.ntmps8
  go_wp2_with fail
  generalize hW : World.alloc w _ = V
  have B0 : Blk V w.heap.size #[.int .i64 W, .int .i64 H, .string s] 40 := by rw [← hW]; exact Blk.new w _ _
  have hb0 : Below w.heap.size w V := by rw [← hW]; exact (Below.refl _ _).alloc (Nat.le_refl _) _
  clear hW
  have BK : Hid (∀ w', Below V.heap.size V w' → (w'.cell? ⟨w.heap.size, 0, none⟩ = some (.int .i64 W) ∧ w'.cell? ⟨w.heap.size, 1, none⟩ = some (.int .i64 H) ∧ w'.cell? ⟨w.heap.size, 2, none⟩ = some (.string s))) :=
    fun w' h => (B0.below h B0.lt).three.1
  clear B0
  refine (szPic_any W H s 1048576 V hs (by decide) (by decide)).mono ?_
  rintro e w1 ⟨rfl | ⟨r, rfl, r0, r1, r2⟩, hc1⟩
  · have hb1 := hb0.trans (hc1.mono hb0.size)
    go_wp2
    go_ret
    exact ⟨rfl, hb1⟩
  obtain ⟨x0, x1, x2⟩ := BK.out w1 hc1
  go_wp2_with fail
  refine (toPic_any W H s w1).mono ?_
  rintro e w2 ⟨rfl, hc⟩
  have hc2 := hc1.trans (hc.mono hc1.size)
  clear hc hc1 x0 x1 x2
  obtain ⟨x0, x1, x2⟩ := BK.out w2 hc2
  go_wp2_with fail
  refine (CS.out w2).mono ?_
  rintro e w3 ⟨⟨v, rfl, ho⟩, hc⟩
  have hc3 := hc2.trans (hc.mono hc2.size)
  obtain ⟨pw, cw, rfl, iw, _⟩ := ints_of_owns ho
  have IW : Hid (∀ w', Below w3.heap.size w3 w' → Ints w' pw Z) := fun w' hb => iw.below hb (Nat.le_refl _)
  clear hc hc2 x0 x1 x2 ho iw
  obtain ⟨x0, x1, x2⟩ := BK.out w3 hc3
  go_wp2_with fail
  refine (toPic_any W H s w3).mono ?_
  rintro e w4 ⟨rfl, hd4⟩
  have hc4 := hc3.trans (hd4.mono hc3.size)
  clear hc3 x0 x1 x2
  obtain ⟨x0, x1, x2⟩ := BK.out w4 hc4
  go_wp2_with fail
  refine (CI.out w4).mono ?_
  rintro e w5 ⟨⟨v, rfl, ho⟩, hc⟩
  have hc5 := hc4.trans (hc.mono hc4.size)
  have hd5 := hd4.trans (hc.mono hd4.size)
  have hs34 := hd4.size
  have hs4 := hc4.size
  obtain ⟨pg, cg, rfl, ig, _⟩ := ints_of_owns ho
  have HG5 : Hid (w5.ownsRow w4.heap.size 3 1 (.slice pg Z.length cg) Z.length (Z.map (Value.int .i64))) := ho
  clear hc hc4 hd4 x0 x1 x2 ho
  go_wp2_with fail
  refine (eqIntS_any _ _ _ _ Z w5 ig (IW.out w5 hd5) (by omega)).mono ?_
  rintro e w6 ⟨rfl, hc⟩
  have hc6 := hc5.trans (hc.mono hc5.size)
  have hd6 := hd5.trans (hc.mono hd5.size)
  have HG6 : Hid (w6.ownsRow w4.heap.size 3 1 (.slice pg Z.length cg) Z.length (Z.map (Value.int .i64))) := owned_below HG5.out hc
  clear hc hc5 hd5 HG5 ig
  go_wp2_with fail
  refine (markIntS_any pg cg w4.heap.size Z 1 w6 HG6.out (by omega) (by omega) (by omega)).mono ?_
  rintro e w7 ⟨rfl, ho, hg⟩
  have hc7 : Below V.heap.size V w7 := hc6.grown hg hc6.size (fun g hgb => Nat.le_trans hs4 (HG6.out.lt g hgb).1)
  have hd7 : Below w3.heap.size w3 w7 := hd6.grown hg hd6.size (fun g hgb => Nat.le_trans hs34 (HG6.out.lt g hgb).1)
  have IM : Hid (∀ w', Below w7.heap.size w7 w' → Ints w' pg (marksI 1 Z.length)) := fun w' hb => by
    have hm := marksI_length 1 Z.length
    have := owned_at (xs := marksI 1 Z.length) (p := pg) (c := cg) (by rw [hm]; exact ho)
    exact this.below hb (Nat.le_refl _)
  clear ho hg hc6 hd6 HG6
  go_wp2_with fail
  refine (heldIntS_any pg Z.length cg 1 w7 (IM.out w7 (Below.refl _ _)) (by omega) (by omega) (by omega)).mono ?_
  rintro e w8 ⟨rfl, hw⟩
  subst w8
  obtain ⟨x0, x1, x2⟩ := BK.out w7 hc7
  go_wp2_with fail
  refine (toPic_any W H s w7).mono ?_
  rintro e w8 ⟨rfl, hc⟩
  have hc8 := hc7.trans (hc.mono hc7.size)
  have hd8 := hd7.trans (hc.mono hd7.size)
  have he8 : Below w7.heap.size w7 w8 := hc
  clear hc hc7 hd7 x0 x1 x2
  obtain ⟨x0, x1, x2⟩ := BK.out w8 hc8
  go_wp2_with fail
  refine (CI.out w8).mono ?_
  rintro e w9 ⟨⟨v, rfl, ho⟩, hc⟩
  have hc9 := hc8.trans (hc.mono hc8.size)
  have hd9 := hd8.trans (hc.mono hd8.size)
  have he9 := he8.trans (hc.mono he8.size)
  obtain ⟨ph, ch, rfl, ih, _⟩ := ints_of_owns ho
  clear hc hc8 hd8 he8 x0 x1 x2 ho
  go_wp2_with fail
  refine (eqIntS_any _ _ _ _ Z w9 ih (IW.out w9 hd9) (by omega)).mono ?_
  rintro e w10 ⟨rfl, hc⟩
  have hc10 := hc9.trans (hc.mono hc9.size)
  have he10 := he9.trans (hc.mono he9.size)
  clear hc hc9 hd9 he9 ih
  go_wp2_with fail
  refine (heldIntS_any pg Z.length cg 1 w10 (IM.out w10 he10) (by omega) (by omega) (by omega)).mono ?_
  rintro e w11 ⟨rfl, hw⟩
  subst w11
  have hb10 := hb0.trans (hc10.mono hb0.size)
  go_wp2
  go_ret
  exact ⟨rfl, hb10⟩
end Go.Proofs.Ytpodpfdbklffgaa
