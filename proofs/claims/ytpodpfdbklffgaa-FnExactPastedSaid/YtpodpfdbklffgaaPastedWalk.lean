/-
  The walk of laws.FnExactPasted.
-/
import Derived.Test.YtpodpfdbklffgaaPasteOf
import Derived.Test.YtpodpfdbklffgaaPasteSpec
import Derived.Deep.CutRange
namespace Go.Proofs.Ytpodpfdbklffgaa
open Go.RowKit
set_option linter.unusedVariables false
set_option maxRecDepth 20000

set_option maxHeartbeats 3200000 in
theorem fnExactPasted_walk (W H : Int) (s : ByteArray) (W' H' : Int) (q : ByteArray) (l t : Int) (w : World) (hs : s.size ≤ maxLen) (hq : q.size ≤ maxLen) :
    Calls Try.prog 10 #[picV W H s, picV W' H' q, .int .i64 l, .int .i64 t] w fun e w' => e = .returned (.bool true) ∧ Below w.heap.size w w' := by
  obtain ⟨A, B, T, o, hG⟩ : ∃ A B T o, pasteV W H s W' H' q l t = .tuple #[picV A B T, .bool o] := by
    unfold pasteV
    split
    · exact ⟨_, _, _, _, rfl⟩
    · exact ⟨_, _, _, _, rfl⟩
  have CS : Hid (∀ w', Calls Try.prog 34 #[picV W H s, picV W' H' q, .int .i64 l, .int .i64 t] w' (fun e w'' => e = .returned (.tuple #[picV A B T, .bool o]) ∧ Below w'.heap.size w' w'')) := fun w' => by rw [← hG]; exact specPasted W H s W' H' q l t w'
  have CI0 : Hid (s.size ≤ 1048576 → ∀ w', Calls Try.prog 16 #[picV W H s, picV W' H' q, .int .i64 l, .int .i64 t] w' (fun e w'' => e = .returned (.tuple #[picV A B T, .bool o]) ∧ Below w'.heap.size w' w'')) := fun h w' => by rw [← hG]; exact implPasted W H s W' H' q l t w' h
  clear hG
  go_enter Try.func10, Try.ntmps10
  go_wp2_with fail
  generalize hW : World.alloc w _ = V
  have A0 : Blk V w.heap.size #[.int .i64 W, .int .i64 H, .string s] 40 := by rw [← hW]; exact Blk.new w _ _
  have hs0 : V.heap.size = w.heap.size + 1 := by rw [← hW]; simp
  have hb0 : Below w.heap.size w V := by rw [← hW]; exact (Below.refl _ _).alloc (Nat.le_refl _) _
  clear hW
  generalize hX : World.alloc V _ = X
  have A1 : Blk X w.heap.size #[.int .i64 W, .int .i64 H, .string s] 40 := by rw [← hX]; exact A0.alloc _
  have B1 : Blk X (w.heap.size + 1) #[.int .i64 W', .int .i64 H', .string q] 40 := by rw [← hX, ← hs0]; exact Blk.new V _ _
  have hb1 : Below w.heap.size w X := by rw [← hX]; exact hb0.alloc hb0.size _
  clear hX hb0 A0 hs0
  have BK : Hid (∀ w', Below X.heap.size X w' → (w'.cell? ⟨w.heap.size, 0, none⟩ = some (.int .i64 W) ∧ w'.cell? ⟨w.heap.size, 1, none⟩ = some (.int .i64 H) ∧ w'.cell? ⟨w.heap.size, 2, none⟩ = some (.string s)) ∧
      (w'.cell? ⟨w.heap.size + 1, 0, none⟩ = some (.int .i64 W') ∧ w'.cell? ⟨w.heap.size + 1, 1, none⟩ = some (.int .i64 H') ∧ w'.cell? ⟨w.heap.size + 1, 2, none⟩ = some (.string q))) := fun w' h => ⟨(A1.below h A1.lt).three.1, (B1.below h B1.lt).three.1⟩
  have hlt := B1.lt
  clear A1 B1
  refine (szPic_any W H s 1048576 X hs (by decide) (by decide)).mono ?_
  rintro e w0 ⟨rfl | ⟨r, rfl, r0, r1, r2⟩, hc⟩
  · have hb2 := hb1.trans (hc.mono hb1.size)
    go_wp2
    go_ret
    exact ⟨rfl, hb2⟩
  have CI : Hid (∀ w', Calls Try.prog 16 #[picV W H s, picV W' H' q, .int .i64 l, .int .i64 t] w' (fun e w'' => e = .returned (.tuple #[picV A B T, .bool o]) ∧ Below w'.heap.size w' w'')) := CI0.out (by omega)
  clear CI0
  obtain ⟨⟨x0, x1, x2⟩, y0, y1, y2⟩ := BK.out w0 hc
  go_wp2_with fail
  refine (szPic_any W' H' q r w0 hq r0 r1).mono ?_
  rintro e w1 ⟨rfl | ⟨r', rfl, r0', r1', r2'⟩, hc'⟩
  · have hb2 := hb1.trans ((hc.trans (hc'.mono hc.size)).mono hb1.size)
    go_wp2
    go_ret
    exact ⟨rfl, hb2⟩
  have HX1 := hc.trans (hc'.mono hc.size)
  have hs1 := HX1.size
  clear hc hc' x0 x1 x2 y0 y1 y2
  obtain ⟨⟨x0, x1, x2⟩, y0, y1, y2⟩ := BK.out w1 HX1
  have e1 : w.heap.size + 1 < w1.heap.size := by omega
  go_wp2_with fail
  go_cut [10, 11] from 24 to 33 (fun p1 p2 wc => ∃ gw, p1 = .pointer (some ⟨gw, 0, none⟩) ∧ p2 = .bool o ∧ Blk wc gw #[.int .i64 A, .int .i64 B, .string T] 25 ∧ w1.heap.size ≤ gw ∧ Below w1.heap.size w1 wc)
  case first =>
    have K0 := BK.out w1.drew HX1.drew
    have K0a := BK.out _ ((HX1.alloc HX1.size (.cells #[.int .i64 0, .int .i64 0, .string ⟨#[]⟩] 25)).drew)
    go_region_held3 (fun w' => (w'.cell? ⟨w.heap.size, 0, none⟩ = some (.int .i64 W) ∧ w'.cell? ⟨w.heap.size, 1, none⟩ = some (.int .i64 H) ∧ w'.cell? ⟨w.heap.size, 2, none⟩ = some (.string s)) ∧ (w'.cell? ⟨w.heap.size + 1, 0, none⟩ = some (.int .i64 W') ∧ w'.cell? ⟨w.heap.size + 1, 1, none⟩ = some (.int .i64 H') ∧ w'.cell? ⟨w.heap.size + 1, 2, none⟩ = some (.string q)))
      (first | (with_reducible exact K0) | (with_reducible exact K0a) | (with_reducible exact K1) | (with_reducible exact K1a) | (with_reducible exact K2) | (with_reducible exact K2a) | (with_reducible exact K3) | (with_reducible exact K3a) | (with_reducible exact KS))
      (first
        | (have hx := hq2; go_at_call 34; refine (CS.out _).mono ?_; rintro e u3 ⟨rfl, hr3⟩; have hq3 : Below u2.heap.size u2 u3 := (show Below u2.heap.size u2 _ by go_grown).trans (hr3.mono (by simp)); have HQ3 : Below w1.heap.size w1 u3 := HQ2.trans (hq3.mono HQ2.size); have HY3 := HX1.trans (HQ3.mono HX1.size); have K3 := BK.out _ HY3; have K3a := BK.out _ (HY3.alloc HY3.size (.cells #[.int .i64 0, .int .i64 0, .string ⟨#[]⟩] 25)); (first | (have Z3 := Z2.below hq3 Z2.lt; have gz3 := gz2) | (have Z3 : Blk u3 u2.heap.size #[.int .i64 0, .int .i64 0, .string ⟨#[]⟩] 25 := (Blk.new u2 #[.int .i64 0, .int .i64 0, .string ⟨#[]⟩] 25).below hr3 (by simp); have gz3 : w1.heap.size ≤ u2.heap.size := HQ2.size) | skip); (first | (obtain ⟨⟨zx0, zx1, zx2⟩, zf0, zf1, zf2⟩ := Z3.three; have hSt := below_pic HY3 (Nat.le_trans HX1.size gz3) (.int .i64 A) (.int .i64 B) (.string T); have KS := BK.out _ hSt) | (have KS := BK.out _ (HY3.alloc HY3.size (.cells #[.int .i64 A, .int .i64 B, .string T] 25)))))
        | (have hx := hq1; go_at_call 24; refine (toPic_any _ _ _ _).mono ?_; rintro e u2 ⟨rfl, hr2⟩; have hq2 : Below u1.heap.size u1 u2 := (show Below u1.heap.size u1 _ by go_grown).trans (hr2.mono (by simp)); have HQ2 : Below w1.heap.size w1 u2 := HQ1.trans (hq2.mono HQ1.size); have HY2 := HX1.trans (HQ2.mono HX1.size); have K2 := BK.out _ HY2; have K2a := BK.out _ (HY2.alloc HY2.size (.cells #[.int .i64 0, .int .i64 0, .string ⟨#[]⟩] 25)); (first | (have Z2 := Z1.below hq2 Z1.lt; have gz2 := gz1) | (have Z2 : Blk u2 u1.heap.size #[.int .i64 0, .int .i64 0, .string ⟨#[]⟩] 25 := (Blk.new u1 #[.int .i64 0, .int .i64 0, .string ⟨#[]⟩] 25).below hr2 (by simp); have gz2 : w1.heap.size ≤ u1.heap.size := HQ1.size) | skip))
        | (go_at_call 24; refine (toPic_any _ _ _ _).mono ?_; rintro e u1 ⟨rfl, hr1⟩; have hq1 : Below w1.heap.size w1 u1 := (show Below w1.heap.size w1 _ by go_grown).trans (hr1.mono (by simp)); have HQ1 : Below w1.heap.size w1 u1 := hq1; have HY1 := HX1.trans (HQ1.mono HX1.size); have K1 := BK.out _ HY1; have K1a := BK.out _ (HY1.alloc HY1.size (.cells #[.int .i64 0, .int .i64 0, .string ⟨#[]⟩] 25)); (first | (have Z1 : Blk u1 w1.heap.size #[.int .i64 0, .int .i64 0, .string ⟨#[]⟩] 25 := ((Blk.new w1 #[.int .i64 0, .int .i64 0, .string ⟨#[]⟩] 25).drew).below hr1 (by simp); have gz1 : w1.heap.size ≤ w1.heap.size := Nat.le_refl _) | skip)))
    all_goals
      go_wp2_with fail
      go_meet
      first
      | exact ⟨_, rfl, rfl, Z3.pic (.int .i64 A) (.int .i64 B) (.string T), gz3, below_pic HQ3 gz3 (.int .i64 A) (.int .i64 B) (.string T)⟩
      | exact ⟨_, rfl, rfl, Blk.new u3 _ _, HQ3.size, HQ3.alloc HQ3.size _⟩
  case rest =>
  revert hcut
  generalize wc = wx
  rintro ⟨gw, rfl, rfl, N5, g5, hbx⟩
  have HX2 := HX1.trans (hbx.mono HX1.size)
  have NB : Hid (∀ w', Below wx.heap.size wx w' → Blk w' gw #[.int .i64 A, .int .i64 B, .string T] 25) := fun w' h => N5.below h N5.lt
  have gl : gw < wx.heap.size := N5.lt
  clear x0 x1 x2 y0 y1 y2 N5 hbx HX1 hs1
  obtain ⟨⟨x0, x1, x2⟩, y0, y1, y2⟩ := BK.out wx HX2
  have hs2 := HX2.size
  have e2 : w.heap.size + 1 < wx.heap.size := by omega
  go_wp2_with fail
  go_cut [12, 13] from 34 to 43 (fun p1 p2 wc => ∃ gw, p1 = .pointer (some ⟨gw, 0, none⟩) ∧ p2 = .bool o ∧ Blk wc gw #[.int .i64 A, .int .i64 B, .string T] 25 ∧ wx.heap.size ≤ gw ∧ Below wx.heap.size wx wc)
  case first =>
    have K0 := BK.out wx.drew HX2.drew
    have K0a := BK.out _ ((HX2.alloc HX2.size (.cells #[.int .i64 0, .int .i64 0, .string ⟨#[]⟩] 25)).drew)
    go_region_held3 (fun w' => (w'.cell? ⟨w.heap.size, 0, none⟩ = some (.int .i64 W) ∧ w'.cell? ⟨w.heap.size, 1, none⟩ = some (.int .i64 H) ∧ w'.cell? ⟨w.heap.size, 2, none⟩ = some (.string s)) ∧ (w'.cell? ⟨w.heap.size + 1, 0, none⟩ = some (.int .i64 W') ∧ w'.cell? ⟨w.heap.size + 1, 1, none⟩ = some (.int .i64 H') ∧ w'.cell? ⟨w.heap.size + 1, 2, none⟩ = some (.string q)))
      (first | (with_reducible exact K0) | (with_reducible exact K0a) | (with_reducible exact K1) | (with_reducible exact K1a) | (with_reducible exact K2) | (with_reducible exact K2a) | (with_reducible exact K3) | (with_reducible exact K3a) | (with_reducible exact KS))
      (first
        | (have hx := hq2; go_at_call 16; refine (CI.out _).mono ?_; rintro e v3 ⟨rfl, hr3⟩; have hq3 : Below v2.heap.size v2 v3 := (show Below v2.heap.size v2 _ by go_grown).trans (hr3.mono (by simp)); have HQ3 : Below wx.heap.size wx v3 := HQ2.trans (hq3.mono HQ2.size); have HY3 := HX2.trans (HQ3.mono HX2.size); have K3 := BK.out _ HY3; have K3a := BK.out _ (HY3.alloc HY3.size (.cells #[.int .i64 0, .int .i64 0, .string ⟨#[]⟩] 25)); (first | (have Z3 := Z2.below hq3 Z2.lt; have gz3 := gz2) | (have Z3 : Blk v3 v2.heap.size #[.int .i64 0, .int .i64 0, .string ⟨#[]⟩] 25 := (Blk.new v2 #[.int .i64 0, .int .i64 0, .string ⟨#[]⟩] 25).below hr3 (by simp); have gz3 : wx.heap.size ≤ v2.heap.size := HQ2.size) | skip); (first | (obtain ⟨⟨zx0, zx1, zx2⟩, zf0, zf1, zf2⟩ := Z3.three; have hSt := below_pic HY3 (Nat.le_trans HX2.size gz3) (.int .i64 A) (.int .i64 B) (.string T); have KS := BK.out _ hSt) | (have KS := BK.out _ (HY3.alloc HY3.size (.cells #[.int .i64 A, .int .i64 B, .string T] 25)))))
        | (have hx := hq1; go_at_call 24; refine (toPic_any _ _ _ _).mono ?_; rintro e v2 ⟨rfl, hr2⟩; have hq2 : Below v1.heap.size v1 v2 := (show Below v1.heap.size v1 _ by go_grown).trans (hr2.mono (by simp)); have HQ2 : Below wx.heap.size wx v2 := HQ1.trans (hq2.mono HQ1.size); have HY2 := HX2.trans (HQ2.mono HX2.size); have K2 := BK.out _ HY2; have K2a := BK.out _ (HY2.alloc HY2.size (.cells #[.int .i64 0, .int .i64 0, .string ⟨#[]⟩] 25)); (first | (have Z2 := Z1.below hq2 Z1.lt; have gz2 := gz1) | (have Z2 : Blk v2 v1.heap.size #[.int .i64 0, .int .i64 0, .string ⟨#[]⟩] 25 := (Blk.new v1 #[.int .i64 0, .int .i64 0, .string ⟨#[]⟩] 25).below hr2 (by simp); have gz2 : wx.heap.size ≤ v1.heap.size := HQ1.size) | skip))
        | (go_at_call 24; refine (toPic_any _ _ _ _).mono ?_; rintro e v1 ⟨rfl, hr1⟩; have hq1 : Below wx.heap.size wx v1 := (show Below wx.heap.size wx _ by go_grown).trans (hr1.mono (by simp)); have HQ1 : Below wx.heap.size wx v1 := hq1; have HY1 := HX2.trans (HQ1.mono HX2.size); have K1 := BK.out _ HY1; have K1a := BK.out _ (HY1.alloc HY1.size (.cells #[.int .i64 0, .int .i64 0, .string ⟨#[]⟩] 25)); (first | (have Z1 : Blk v1 wx.heap.size #[.int .i64 0, .int .i64 0, .string ⟨#[]⟩] 25 := ((Blk.new wx #[.int .i64 0, .int .i64 0, .string ⟨#[]⟩] 25).drew).below hr1 (by simp); have gz1 : wx.heap.size ≤ wx.heap.size := Nat.le_refl _) | skip)))
    all_goals
      go_wp2_with fail
      go_meet
      first
      | exact ⟨_, rfl, rfl, Z3.pic (.int .i64 A) (.int .i64 B) (.string T), gz3, below_pic HQ3 gz3 (.int .i64 A) (.int .i64 B) (.string T)⟩
      | exact ⟨_, rfl, rfl, Blk.new v3 _ _, HQ3.size, HQ3.alloc HQ3.size _⟩
  case rest =>
  revert hcut
  generalize wc = wy
  rintro ⟨gg, rfl, rfl, G5, g6, hby⟩
  have HX3 := HX2.trans (hby.mono HX2.size)
  have hb3 := hb1.trans (HX3.mono hb1.size)
  have N6 := NB.out wy hby
  obtain ⟨⟨z0, z1, z2⟩, _⟩ := G5.three
  obtain ⟨⟨p0, p1, p2⟩, _⟩ := N6.three
  clear x0 x1 x2 y0 y1 y2 N6 hby HX2 HX3 NB BK G5
  go_wp2_with (go_at_call 26; refine (eqPic_any _ _ _ _).mono ?_; rintro e w9 ⟨rfl, hc9⟩)
  go_ret
  exact ⟨rfl, hb3.trans (hc9.mono hb3.size)⟩
end Go.Proofs.Ytpodpfdbklffgaa
