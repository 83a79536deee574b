/-
  The walk of spec.DrawPics: two drawn pictures of one size.
-/
import Derived.Test.YtpodpfdbklffgaaPicNear
namespace Go.Proofs.Ytpodpfdbklffgaa
open Go.RowKit
set_option linter.unusedVariables false
set_option maxRecDepth 20000

/-- Two structs, handed back out of their variables. -/
theorem results_cells {P : Program} {fn : Func} {p q : Tmp} {ty tz : TypeId} (h : fn.results = #[.cell p ty, .cell q tz]) (tmps : Array Value) (w : World) (g k : Nat) (t u : TypeId) (cs ds : Array Value) (fr fs : Nat × Nat) (d e : TypeDesc)
    (hp : tmps.getD p undef = .pointer (some ⟨g, 0, none⟩)) (hg : w.heap[g]? = some (.cells cs t fr)) (hq : tmps.getD q undef = .pointer (some ⟨k, 0, none⟩)) (hk : w.heap[k]? = some (.cells ds u fs))
    (hu : P.underlying ty = some d) (hd : (match d with | .struct _ | .array _ _ => true | _ => false) = true) (hi : (P.info? ty).map (·.size) = some cs.size)
    (hv : P.underlying tz = some e) (he : (match e with | .struct _ | .array _ _ => true | _ => false) = true) (hj : (P.info? tz).map (·.size) = some ds.size) :
    (results fn tmps).run P w = .ok (.tuple #[.agg cs, .agg ds]) w := by
  have hp' : tmps[p]?.getD undef = .pointer (some ⟨g, 0, none⟩) := by simpa using hp
  have hq' : tmps[q]?.getD undef = .pointer (some ⟨k, 0, none⟩) := by simpa using hq
  simp [results, h, hp', hq', asAddr, Result.andThen, run_loadVar_row w g t ty cs fr d hg hu hd hi, run_loadVar_row w k u tz ds fs e hk hv he hj]

set_option maxHeartbeats 1600000 in
theorem drawPics_any (a : Option Addr) (len cap B : Nat) (w : World) (hc : CodeRow w B a len) (hB : B ≤ w.heap.size) :
    Calls Try.prog 13 #[.slice a len cap] w fun e w' => ∃ (W H : Int) (s t : ByteArray), e = .returned (.tuple #[picV W H s, picV W H t]) ∧ picB W H s = true ∧ picB W H t = true ∧ W ≤ 16 ∧ H ≤ 16 ∧ Below w.heap.size w w' := by
  go_enter Try.func13, Try.ntmps13
  go_wp2_with fail
  generalize hX : World.alloc w _ = V
  have A0 : Blk V w.heap.size #[.int .i64 0, .int .i64 0, .string ⟨#[]⟩] 25 := by rw [← hX]; exact Blk.new w _ _
  have hs0 : V.heap.size = w.heap.size + 1 := by rw [← hX]; simp
  have hb0 : Below w.heap.size w V := by rw [← hX]; exact (Below.refl _ _).alloc (Nat.le_refl _) _
  clear hX
  generalize hX : World.alloc V _ = X
  have A1 : Blk X w.heap.size #[.int .i64 0, .int .i64 0, .string ⟨#[]⟩] 25 := by rw [← hX]; exact A0.alloc _
  have B1 : Blk X (w.heap.size + 1) #[.int .i64 0, .int .i64 0, .string ⟨#[]⟩] 25 := by rw [← hX, ← hs0]; exact Blk.new V _ _
  have hb1 : Below w.heap.size w X := by rw [← hX]; exact hb0.alloc hb0.size _
  have hs1 : X.heap.size = w.heap.size + 1 + 1 := by rw [← hX]; simp [hs0]
  have hX1 : w.heap.size + 1 < X.heap.size := by omega
  clear hX A0 hs0 hb0 hs1
  have hcX : CodeRow X B a len := hc.below (hb1.mono hB)
  have hBX : B ≤ X.heap.size := by omega
  refine (new_cur a len cap B X hcX hBX).mono ?_
  rintro e w1 ⟨rfl, hcur, hc1⟩
  have hcd1 := hcX.below (hc1.mono hBX)
  go_wp2_with fail
  refine (squares12_any X.heap.size a len B w1 hcd1 hBX hcur).mono ?_
  rintro e w2 ⟨W, H, s, rfl, hW, hH, hs, hk2⟩
  have hok : picB (W : Int) (H : Int) s = true := picB_iff.2 ⟨by omega, by omega, by rw [hs]; simp⟩
  have h256 : (s.size : Int) ≤ 256 := by
    have : W * H ≤ 16 * 16 := Nat.mul_le_mul hW.2 hH.2
    omega
  have hs1' := hc1.size
  have hc2 : Below X.heap.size X w2 := hc1.trans (below_of_grown hk2.2 hs1' (fun j hj => by cases hj; exact Nat.le_refl _))
  have hcd2 := hk2.code hcd1 hBX (by omega)
  go_wp2_with fail
  have A2 := (A1.below hc2 A1.lt).alloc (.cells #[.int .i64 (W : Int), .int .i64 (H : Int), .string s] 25)
  have B2 := (B1.below hc2 B1.lt).alloc (.cells #[.int .i64 (W : Int), .int .i64 (H : Int), .string s] 25)
  have P2 := Blk.new w2 #[.int .i64 (W : Int), .int .i64 (H : Int), .string s] 25
  have hc3 := hc2.alloc hc2.size (.cells #[.int .i64 (W : Int), .int .i64 (H : Int), .string s] 25)
  have hcu3 : CurAt (w2.alloc (.cells #[.int .i64 (W : Int), .int .i64 (H : Int), .string s] 25)) X.heap.size a len := hk2.1.kept (World.grownBy_alloc w2 _ none) (by simp)
  have hx2 : X.heap.size < w2.heap.size := hk2.1.lt
  have hcd3 : CodeRow (w2.alloc (.cells #[.int .i64 (W : Int), .int .i64 (H : Int), .string s] 25)) B a len := hcd2.below ((Below.refl B w2).alloc (by omega) _)
  clear A1 B1 hcX hcur hc1 hcd1 hk2 hc2 hcd2 hs1'
  generalize w2.alloc (.cells #[.int .i64 (W : Int), .int .i64 (H : Int), .string s] 25) = U at *
  obtain ⟨⟨x0, x1, x2⟩, _⟩ := P2.three
  have K0 := P2.drew.three.1
  have hU := P2.lt
  have CN : Hid (∀ w', w' = U.drew → Calls Try.prog 38 #[.pointer (some ⟨X.heap.size, 0, none⟩), picV (W : Int) (H : Int) s] w' (fun e w'' => ∃ t : ByteArray, e = .returned (picV (W : Int) (H : Int) t) ∧ t.size = s.size ∧ CurKept U.drew w'' X.heap.size a len)) := fun w' h => by
    subst h
    exact near_any X.heap.size a len B (W : Int) (H : Int) s U.drew (hcd3.below (Below.refl _ _).drew) hBX (hcu3.kept (grown_of_below (Below.refl _ _).drew none) (by simp)) hok h256
  have HK : Hid (picB (W : Int) (H : Int) s = true) := hok
  clear hok hcu3 hcd3
  go_region_held3 (fun w' => w'.cell? ⟨w2.heap.size, 0, none⟩ = some (.int .i64 (W : Int)) ∧ w'.cell? ⟨w2.heap.size, 1, none⟩ = some (.int .i64 (H : Int)) ∧ w'.cell? ⟨w2.heap.size, 2, none⟩ = some (.string s))
    (first | with_reducible exact K0 | with_reducible exact K4 | with_reducible exact K5 | with_reducible exact K6)
    (first
      | (go_at_call 38; refine (CN.out _ rfl).mono ?_; rintro e w4 ⟨t, rfl, ht, hk4⟩; have P4 := P2.drew.grew' hk4.2 (by intro e; have := Option.some.inj e; omega); have A4 := A2.drew.grew' hk4.2 (by intro e; have := Option.some.inj e; omega); have B4 := B2.drew.grew' hk4.2 (by intro e; have := Option.some.inj e; omega); have hc4 : Below X.heap.size X w4 := hc3.drew.grown hk4.2 hc3.drew.size (fun j hj => by cases hj; exact Nat.le_refl _); have K4 := P4.three.1; obtain ⟨⟨a0, a1, a2⟩, fa0, fa1, fa2⟩ := A4.three; have A5 := A4.pic (.int .i64 (W : Int)) (.int .i64 (H : Int)) (.string s); have B5 := ((B4.other ⟨w.heap.size, 0, none⟩ (.int .i64 (W : Int)) (by simp)).other ⟨w.heap.size, 1, none⟩ (.int .i64 (H : Int)) (by simp)).other ⟨w.heap.size, 2, none⟩ (.string s) (by simp); have P5 := ((P4.other ⟨w.heap.size, 0, none⟩ (.int .i64 (W : Int)) (by simp; omega)).other ⟨w.heap.size, 1, none⟩ (.int .i64 (H : Int)) (by simp; omega)).other ⟨w.heap.size, 2, none⟩ (.string s) (by simp; omega); have K5 := P5.three.1; have B6 := B5.pic (.int .i64 (W : Int)) (.int .i64 (H : Int)) (.string t); have A6 := ((A5.other ⟨w.heap.size + 1, 0, none⟩ (.int .i64 (W : Int)) (by simp)).other ⟨w.heap.size + 1, 1, none⟩ (.int .i64 (H : Int)) (by simp)).other ⟨w.heap.size + 1, 2, none⟩ (.string t) (by simp); have P6 := ((P5.other ⟨w.heap.size + 1, 0, none⟩ (.int .i64 (W : Int)) (by simp; omega)).other ⟨w.heap.size + 1, 1, none⟩ (.int .i64 (H : Int)) (by simp; omega)).other ⟨w.heap.size + 1, 2, none⟩ (.string t) (by simp; omega); have K6 := P6.three.1; obtain ⟨⟨b0, b1, b2⟩, fb0, fb1, fb2⟩ := B4.three))
  have hb4 := hb1.trans (hc4.mono hb1.size)
  have hb6 := below_pic (below_pic hb4 (g := w.heap.size) (Nat.le_refl _) (.int .i64 (W : Int)) (.int .i64 (H : Int)) (.string s)) (g := w.heap.size + 1) (by omega) (.int .i64 (W : Int)) (.int .i64 (H : Int)) (.string t)
  clear K0 K4 K5 K6 P4 P5 P6 A4 A5 B4 B5
  go_wp2
  (try simp only [Exit.inBlock, Exit.then])
  refine bodyPost_ret (results_cells rfl _ _ w.heap.size (w.heap.size + 1) 25 25 _ _ (0, 0) (0, 0) _ _ rfl A6 rfl B6 Try.underlying25 rfl (by kernel_rfl) Try.underlying25 rfl (by kernel_rfl)) rfl ?_
  refine ⟨(W : Int), (H : Int), s, t, rfl, HK.out, ?_, by omega, by omega, hb6⟩
  have h1 := picB_iff.1 HK.out
  exact picB_iff.2 ⟨h1.1, h1.2.1, by rw [ht]; exact h1.2.2⟩
end Go.Proofs.Ytpodpfdbklffgaa
