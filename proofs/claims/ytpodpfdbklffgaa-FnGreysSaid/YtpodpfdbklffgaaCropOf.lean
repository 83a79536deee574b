/-
  What is in a rectangle: the walks of impl.CutOf and spec.CutOf.
-/
import Derived.Test.YtpodpfdbklffgaaCropKit
import Derived.Test.YtpodpfdbklffgaaOwnKit
import Derived.Test.YtpodpfdbklffgaaFixKit
import Derived.Lib.AppendStr
import Derived.Test.YtpodpfdbklffgaaShelf
import Derived.Test.YtpodpfdbklffgaaBuildShelf
import Derived.Deep.RegionHeld3
import Derived.Deep.RegionWith
namespace Go.Proofs.Ytpodpfdbklffgaa
open Go.RowKit
set_option linter.unusedVariables false
set_option maxRecDepth 20000

/-- A struct and one result more, handed back out of the struct's variable. -/
theorem results_cell_and {P : Program} {fn : Func} {p u : Tmp} {ty : TypeId} (h : fn.results = #[.cell p ty, .tmp u]) (tmps : Array Value) (w : World) (g : Nat) (t : TypeId) (cs : Array Value) (fr : Nat × Nat) (d : TypeDesc)
    (hp : tmps.getD p undef = .pointer (some ⟨g, 0, none⟩)) (hg : w.heap[g]? = some (.cells cs t fr))
    (hu : P.underlying ty = some d) (hd : (match d with | .struct _ | .array _ _ => true | _ => false) = true) (hi : (P.info? ty).map (·.size) = some cs.size) :
    (results fn tmps).run P w = .ok (.tuple #[.agg cs, tmps.getD u undef]) w := by
  have hp' : tmps[p]?.getD undef = .pointer (some ⟨g, 0, none⟩) := by simpa using hp
  simp [results, h, hp', asAddr, Result.andThen, run_loadVar_row w g t ty cs fr d hg hu hd hi]
theorem builder_below {w w' : World} {B b : Nat} {bs : List Value} (h : Lib.IsBuilder 63 5 B b bs w) (hb : Below w.heap.size w w') : Lib.IsBuilder 63 5 B b bs w' := by
  rcases h with ⟨h0, v, h1, h2, h3⟩ | ⟨h0, v, h1, h2, h3⟩
  · exact .inl ⟨h0, v, (hb.block b (Array.getElem?_eq_some_iff.1 h1).1).trans h1, owned_below h2 hb, h3⟩
  · exact .inr ⟨h0, v, (hb.block b (Array.getElem?_eq_some_iff.1 h1).1).trans h1, owned_below h2 hb, h3⟩
/-- The cells of a text. -/
abbrev tcells (s : ByteArray) : List Value := Lib.byteCells s.data.toList
theorem tcells_app (s t : ByteArray) : tcells s ++ Lib.strCells t = tcells (s ++ t) := by
  rw [Lib.strCells_eq, ← Lib.byteCells_append]
  simp [tcells]
theorem tcells_length (s : ByteArray) : (tcells s).length = s.size := by
  rw [Lib.byteCells_length]
  rfl
theorem tcells_map (s : ByteArray) : tcells s = (s.data.toList.map fun c => (c.toNat : Int)).map (Value.int .u8) := by
  rw [List.map_map]
  rfl
theorem strOf_bytes (s : ByteArray) : strOfNums (s.data.toList.map fun c => (c.toNat : Int)) = s := by
  apply ByteArray.ext
  apply Array.ext'
  rw [strOfNums_data, List.map_map]
  exact (List.map_congr_left (fun c _ => by simp)).trans (List.map_id _)
/-- string(out) of the bytes of a text. -/
theorem conv_text {w : World} {B n : Nat} {v : Value} {s : ByteArray} (h : w.ownsRow B 5 1 v n (tcells s)) :
    (convert 22 9 v).run Try.prog w = .ok (.string s) w := by
  rw [tcells_map] at h
  have := convF h
  rwa [strOf_bytes] at this
/-- The cells of a picture, of a rectangle and of a variable of a picture's type. -/
abbrev CutIn (w : World) (g1 g2 g3 : Nat) (W H : Int) (s : ByteArray) (l t a b : Int) : Prop :=
  (w.cell? ⟨g1, 0, none⟩ = some (.int .i64 W) ∧ w.cell? ⟨g1, 1, none⟩ = some (.int .i64 H) ∧ w.cell? ⟨g1, 2, none⟩ = some (.string s)) ∧
  (w.cell? ⟨g2, 0, none⟩ = some (.int .i64 l) ∧ w.cell? ⟨g2, 1, none⟩ = some (.int .i64 t) ∧ w.cell? ⟨g2, 2, none⟩ = some (.int .i64 a) ∧ w.cell? ⟨g2, 3, none⟩ = some (.int .i64 b)) ∧
  Blk w g3 #[.int .i64 0, .int .i64 0, .string ⟨#[]⟩] 25
/-- A picture is stored into its variable. -/
theorem Blk.pic {w : World} {g : Nat} {v0 v1 v2 : Value} (h : Blk w g #[v0, v1, v2] 25) (u0 u1 u2 : Value) :
    Blk (((w.setCell ⟨g, 0, none⟩ u0).setCell ⟨g, 1, none⟩ u1).setCell ⟨g, 2, none⟩ u2) g #[u0, u1, u2] 25 :=
  ((h.set 0 u0 (by simp)).set 1 u1 (by simp)).set 2 u2 (by simp)
theorem below_pic {B g : Nat} {a w : World} (h : Below B a w) (hg : B ≤ g) (u0 u1 u2 : Value) :
    Below B a (((w.setCell ⟨g, 0, none⟩ u0).setCell ⟨g, 1, none⟩ u1).setCell ⟨g, 2, none⟩ u2) :=
  ((h.setCell (p := ⟨g, 0, none⟩) hg _).setCell (p := ⟨g, 1, none⟩) hg _).setCell (p := ⟨g, 2, none⟩) hg _

set_option maxHeartbeats 3200000 in
theorem implCutOf (W H : Int) (s : ByteArray) (l t a b : Int) (w : World) (ha : -9223372036854775808 ≤ a ∧ a ≤ 9223372036854775807) (hb : -9223372036854775808 ≤ b ∧ b ≤ 9223372036854775807) :
    Calls Try.prog 15 #[picV W H s, rectW l t a b] w fun e w' => e = .returned (cropV W H s l t a b) ∧ Below w.heap.size w w' := by
  have CO : Hid (∀ w', Calls Try.prog 21 #[picV W H s] w' (fun e w'' => e = .returned (.bool (picB W H s)) ∧ Below w'.heap.size w' w'')) := fun w' => implPicOk W H s w'
  have CH : Hid (picB W H s = true → ∀ w', Calls Try.prog 41 #[picV W H s, rectW l t a b] w' (fun e w'' => e = .returned (.bool (inRB W H l t a b)) ∧ Below w'.heap.size w' w'')) := fun h w' => holds_any W H s l t a b w' (picB_iff.1 h).1 (picB_iff.1 h).2.1 ha hb
  have HP : Hid (picB W H s = true → (1 ≤ W ∧ W ≤ 256) ∧ (1 ≤ H ∧ H ≤ 256) ∧ (s.size : Int) = W * H) := picB_iff.1
  unfold cropV
  generalize picB W H s = B at *
  have HRi : Hid (inRB W H l t a b = true → (0 ≤ l ∧ 1 ≤ a ∧ l ≤ W - a) ∧ (0 ≤ t ∧ 1 ≤ b ∧ t ≤ H - b)) := inRB_iff.1
  have HRw : Hid (∀ k : Nat, inRB W H l t a b = true → (s.size : Int) = W * H → 1 ≤ W → (k : Int) < b → (t + (k : Int)) * W + l = (rowA W l t k : Int) ∧ 0 ≤ (t + (k : Int)) * W ∧ (rowA W l t k : Int) + a ≤ (s.size : Int)) := fun k h hz hW hk => rowA_in h hz hW hk
  have HSz : Hid (inRB W H l t a b = true → (s.size : Int) = W * H → 1 ≤ W → ∀ k : Nat, (k : Int) ≤ b → (cropS W s l t a k).size = k * a.toNat) := fun h hz hW => cropS_size h hz hW
  generalize inRB W H l t a b = R at *
  go_enter Try.func15, Try.ntmps15
  go_wp2_with fail
  generalize hW : World.alloc w _ = V
  have A0 : Blk V w.heap.size #[.int .i64 W, .int .i64 H, .string s] 25 := by rw [← hW]; exact Blk.new w _ _
  have hs0 : V.heap.size = w.heap.size + 1 := by rw [← hW]; simp
  have hb0 : Below w.heap.size w V := by rw [← hW]; exact (Below.refl _ _).alloc (Nat.le_refl _) _
  clear hW
  generalize hX : World.alloc V _ = X
  have A1 : Blk X w.heap.size #[.int .i64 W, .int .i64 H, .string s] 25 := by rw [← hX]; exact A0.alloc _
  have B1 : Blk X (w.heap.size + 1) #[.int .i64 l, .int .i64 t, .int .i64 a, .int .i64 b] 31 := by rw [← hX, ← hs0]; exact Blk.new V _ _
  have hs1 : X.heap.size = w.heap.size + 1 + 1 := by rw [← hX]; simp [hs0]
  have hb1 : Below w.heap.size w X := by rw [← hX]; exact hb0.alloc hb0.size _
  clear hX hb0 A0 hs0
  generalize hY : World.alloc X _ = Y
  have A2 : Blk Y w.heap.size #[.int .i64 W, .int .i64 H, .string s] 25 := by rw [← hY]; exact A1.alloc _
  have B2 : Blk Y (w.heap.size + 1) #[.int .i64 l, .int .i64 t, .int .i64 a, .int .i64 b] 31 := by rw [← hY]; exact B1.alloc _
  have C2 : Blk Y (w.heap.size + 1 + 1) #[.int .i64 0, .int .i64 0, .string ⟨#[]⟩] 25 := by rw [← hY, ← hs1]; exact Blk.new X _ _
  have hb2 : Below w.heap.size w Y := by rw [← hY]; exact hb1.alloc hb1.size _
  clear hY hb1 A1 B1 hs1
  have BK : Hid (∀ w', Below Y.heap.size Y w' → CutIn w' w.heap.size (w.heap.size + 1) (w.heap.size + 1 + 1) W H s l t a b) := fun w' h => ⟨(A2.below h A2.lt).three.1, (B2.below h B2.lt).four.1, C2.below h C2.lt⟩
  have hlt2 := C2.lt
  clear A2 B2 C2
  refine (CO.out Y).mono ?_
  rintro e w1 ⟨rfl, hc1⟩
  obtain ⟨⟨x0, x1, x2⟩, ⟨y0, y1, y2, y3⟩, K1⟩ := BK.out w1 hc1
  have hb3 := hb2.trans (hc1.mono hb2.size)
  obtain ⟨⟨z0, z1, z2⟩, f0, f1, f2⟩ := K1.three
  cases B with
  | false =>
    have KR := K1.pic (.int .i64 0) (.int .i64 0) (.string ⟨#[]⟩)
    have hbr := below_pic hb3 (g := w.heap.size + 1 + 1) (by omega) (.int .i64 0) (.int .i64 0) (.string ⟨#[]⟩)
    clear K1 hb3 hc1
    go_wp2
    (try simp only [Exit.inBlock, Exit.then])
    refine bodyPost_ret (results_cell_and rfl _ _ (w.heap.size + 1 + 1) 25 _ (0, 0) _ rfl KR Try.underlying25 rfl (by kernel_rfl)) rfl ?_
    exact ⟨rfl, hbr⟩
  | true =>
    obtain ⟨p1, p2, p3⟩ := HP.out rfl
    have CH2 : Hid (∀ w', Calls Try.prog 41 #[picV W H s, rectW l t a b] w' (fun e w'' => e = .returned (.bool R) ∧ Below w'.heap.size w' w'')) := CH.out rfl
    clear CO CH HP
    go_wp2_with fail
    refine (CH2.out w1).mono ?_
    rintro e w2 ⟨rfl, hc⟩
    have hc2 := hc1.trans (hc.mono hc1.size)
    have hb4 := hb2.trans (hc2.mono hb2.size)
    clear hc hc1 x0 x1 x2 y0 y1 y2 y3 K1 hb3 z0 z1 z2 f0 f1 f2
    obtain ⟨⟨x0, x1, x2⟩, ⟨y0, y1, y2, y3⟩, K1⟩ := BK.out w2 hc2
    obtain ⟨⟨z0, z1, z2⟩, f0, f1, f2⟩ := K1.three
    cases R with
    | false =>
      have KR := K1.pic (.int .i64 0) (.int .i64 0) (.string ⟨#[]⟩)
      have hbr := below_pic hb4 (g := w.heap.size + 1 + 1) (by omega) (.int .i64 0) (.int .i64 0) (.string ⟨#[]⟩)
      clear K1 hb4 hc2
      go_wp2
      (try simp only [Exit.inBlock, Exit.then])
      refine bodyPost_ret (results_cell_and rfl _ _ (w.heap.size + 1 + 1) 25 _ (0, 0) _ rfl KR Try.underlying25 rfl (by kernel_rfl)) rfl ?_
      exact ⟨rfl, hbr⟩
    | true =>
      obtain ⟨⟨q1, q2, q3⟩, q4, q5, q6⟩ := HRi.out rfl
      have HRx : Hid (∀ k : Nat, (k : Int) < b → (t + (k : Int)) * W + l = (rowA W l t k : Int) ∧ 0 ≤ (t + (k : Int)) * W ∧ (rowA W l t k : Int) + a ≤ (s.size : Int)) := fun k hk => HRw.out k rfl p3 p1.1 hk
      have HSx : Hid (∀ k : Nat, (k : Int) ≤ b → (cropS W s l t a k).size = k * a.toNat) := HSz.out rfl p3 p1.1
      clear HRi HRw HSz CH2 K1 z0 z1 z2 f0 f1 f2 hlt2
      have hs2 := hc2.size
      have e1 : w.heap.size < w2.heap.size := by have := hb2.size; have := (BK.out w2 hc2).2.2.lt; omega
      have e2 : w.heap.size + 1 < w2.heap.size := by have := (BK.out w2 hc2).2.2.lt; omega
      obtain ⟨n, hn⟩ : ∃ n : Nat, b = (n : Int) := ⟨b.toNat, by omega⟩
      subst hn
      obtain ⟨m, hm⟩ : ∃ m : Nat, a = (m : Int) := ⟨a.toNat, by omega⟩
      subst hm
      go_wp2
      have b0 : Lib.IsBuilder 63 5 w2.heap.size w2.heap.size (tcells ⟨#[]⟩) (w2.alloc (.cells #[.pointer none, .slice none 0 0] 63)) := Lib.fresh_isBuilder _ _ w2
      have hb0 : Below w2.heap.size w2 (w2.alloc (.cells #[.pointer none, .slice none 0 0] 63)) := (Below.refl _ _).alloc (Nat.le_refl _) _
      have HB0 : Hid (Lib.IsBuilder 63 5 w2.heap.size w2.heap.size (tcells ⟨#[]⟩) (w2.alloc (.cells #[.pointer none, .slice none 0 0] 63))) := b0
      clear b0
      generalize w2.alloc (.cells #[.pointer none, .slice none 0 0] 63) = U at *
      go_loopw [20] (fun i wr => ∃ k : Nat, k ≤ n ∧ i = .int .i64 (k : Int) ∧ Hid (Lib.IsBuilder 63 5 w2.heap.size w2.heap.size (tcells (cropS W s l t (m : Int) k)) wr) ∧ Below w2.heap.size w2 wr) (fun i _ => n - (intOf i).toNat)
      case atStart => exact ⟨0, Nat.zero_le _, rfl, HB0, hb0⟩
      case round =>
        obtain ⟨k, hk, rfl, HBk, hb'⟩ := hrel
        clear HB0 hb0 x0 x1 x2 y0 y1 y2 y3
        have hcr := hc2.trans (hb'.mono hs2)
        obtain ⟨⟨x0, x1, x2⟩, ⟨y0, y1, y2, y3⟩, K1⟩ := BK.out wr hcr
        have l0 : (0 : Int) ≤ (k : Int) := by omega
        have hsk := HSx.out k (by omega)
        by_cases hlt : k < n
        · have l1 : (k : Int) < (n : Int) := by omega
          obtain ⟨r1, r2, r3⟩ := HRx.out k l1
          have b3 := sides_mul p1 p2
          have HT : Hid (cropS W s l t (m : Int) (k + 1) = cropS W s l t (m : Int) k ++ s.extract (rowA W l t k) (rowA W l t k + m)) := rfl
          have CD : Hid (∀ w', Calls Try.prog 43 #[picV W H s, .int .i64 l, .int .i64 (t + (k : Int)), .int .i64 (m : Int)] w' (fun e w'' => e = .returned (.string (s.extract (rowA W l t k) (rowA W l t k + m))) ∧ Below w'.heap.size w' w'')) := fun w' => dotsAt_any W H s l (t + (k : Int)) (rowA W l t k) m w' r1 ⟨r2, by omega⟩ ⟨q1, by omega⟩ (by omega) (by omega)
          have hez : (s.extract (rowA W l t k) (rowA W l t k + m)).size = m := by rw [ByteArray.size_extract]; omega
          have hmm : m ≤ 256 := by omega
          have hkm : (cropS W s l t (m : Int) k).size ≤ 65536 := by
            rw [hsk]
            have : k * (m : Int).toNat ≤ 256 * 256 := Nat.mul_le_mul (by omega) (by simpa using hmm)
            omega
          generalize s.extract (rowA W l t k) (rowA W l t k + m) = T at *
          generalize cropS W s l t (m : Int) k = S at *
          have HZ : Hid ((tcells S).length + T.size ≤ 140737488355328) := by
            show _ ≤ _
            rw [tcells_length, hez]
            omega
          have hsr := hb'.size
          clear r1 r2 r3 hez hkm hsk K1
          go_wp2_with fail
          refine (CD.out wr).mono ?_
          rintro e w4 ⟨rfl, hc4⟩
          have B4 : Hid (Lib.IsBuilder 63 5 w2.heap.size w2.heap.size (tcells S) w4) := builder_below HBk.out hc4
          have V4 : Below w2.heap.size w2 w4 := hb'.trans (hc4.mono hb'.size)
          clear hc4 HBk x0 x1 x2 y0 y1 y2 y3
          go_wp2_with (go_at_call 42; refine (Try.Builder_WriteString w2.heap.size w2.heap.size (tcells S) T _ B4.out HZ.out V4.size).mono ?_; rintro e w5 ⟨rfl, hx5, hc5⟩; have B5 : Hid (Lib.IsBuilder 63 5 w2.heap.size w2.heap.size (tcells S ++ Lib.strCells T) w5) := .inr hx5; clear hx5)
          have B6 : Hid (Lib.IsBuilder 63 5 w2.heap.size w2.heap.size (tcells (cropS W s l t (m : Int) (k + 1))) w5) := by
            have := B5.out
            rw [tcells_app, ← HT.out] at this
            exact this
          refine ⟨⟨k + 1, by omega, by go_num, B6, V4.trans hc5⟩, ?_⟩
          simp [intOf]; omega
        · obtain rfl : k = n := by omega
          obtain ⟨Z, hZ⟩ : ∃ Z, cropS W s l t (m : Int) k = Z := ⟨_, rfl⟩
          have HZ : Hid (cropS W s l t (m : Int) k = Z) := hZ
          rw [hZ] at HBk
          have CE : Hid (∀ w', w' = wr.drew → Calls Try.prog 44 #[.pointer (some ⟨w2.heap.size, 0, none⟩)] w' (fun e w'' => e = .returned (.string Z) ∧ Below w2.heap.size wr.drew w'')) := fun w' h => by
            subst h
            exact Try.Builder_String_any w2.heap.size w2.heap.size Z.data.toList wr.drew (builder_below HBk.out (Below.refl _ _).drew) hb'.size
          clear hZ hsk K1
          clear x0 x1 x2 y0 y1
          go_wp2_with fail
          go_region_held3 (fun w' => w'.cell? ⟨w.heap.size + 1, 2, none⟩ = some (.int .i64 (m : Int)) ∧ w'.cell? ⟨w.heap.size + 1, 3, none⟩ = some (.int .i64 (k : Int)))
            (first | go_keep | exact ⟨(BK.out _ hc7).2.1.2.2.1, (BK.out _ hc7).2.1.2.2.2⟩)
            (first
              | (go_at_call 44; refine (CE.out _ rfl).mono ?_; rintro e w6 ⟨rfl, hc6⟩; have hb6 := hb'.drew.trans hc6; have hc7 := hc2.trans (hb6.mono hs2); have K6 := (BK.out w6 hc7).2.2; obtain ⟨⟨z0, z1, z2⟩, f0, f1, f2⟩ := K6.three))
          have hb7 := hb2.trans (hc7.mono hb2.size)
          have KR := K6.pic (.int .i64 (m : Int)) (.int .i64 (k : Int)) (.string Z)
          have hbr := below_pic hb7 (g := w.heap.size + 1 + 1) (by omega) (.int .i64 (m : Int)) (.int .i64 (k : Int)) (.string Z)
          clear K6 hb7 hc7 hb6 hb' CE
          go_wp2
          (try simp only [Exit.inBlock, Exit.then])
          refine bodyPost_ret (results_cell_and rfl _ _ (w.heap.size + 1 + 1) 25 _ (0, 0) _ rfl KR Try.underlying25 rfl (by kernel_rfl)) rfl ?_
          refine ⟨?_, hbr⟩
          rw [HZ.out]
          rfl

set_option maxHeartbeats 3200000 in
theorem specCutOf (W H : Int) (s : ByteArray) (l t a b : Int) (w : World) :
    Calls Try.prog 32 #[picV W H s, rectW l t a b] w fun e w' => e = .returned (cropV W H s l t a b) ∧ Below w.heap.size w w' := by
  obtain ⟨i0, hi0, hz0, hz1, hz2⟩ := info_parts infoF
  have CO : Hid (∀ w', Calls Try.prog 57 #[picV W H s, .int .i64 l, .int .i64 t, .int .i64 a, .int .i64 b] w' (fun e w'' => e = .returned (.bool (picB W H s && inRB W H l t a b)) ∧ Below w'.heap.size w' w'')) := fun w' => within_any W H s l t a b w'
  have HP : Hid ((picB W H s && inRB W H l t a b) = true → ((1 ≤ W ∧ W ≤ 256) ∧ (1 ≤ H ∧ H ≤ 256) ∧ (s.size : Int) = W * H) ∧ ((0 ≤ l ∧ 1 ≤ a ∧ l ≤ W - a) ∧ (0 ≤ t ∧ 1 ≤ b ∧ t ≤ H - b)) ∧
      (∀ k : Nat, (k : Int) < b → (t + (k : Int)) * W + l = (rowA W l t k : Int) ∧ 0 ≤ (t + (k : Int)) * W ∧ (rowA W l t k : Int) + a ≤ (s.size : Int)) ∧ (∀ k : Nat, (k : Int) ≤ b → (cropS W s l t a k).size = k * a.toNat)) := fun h => by
    have h' : picB W H s = true ∧ inRB W H l t a b = true := by simpa using h
    have h1 := picB_iff.1 h'.1
    exact ⟨h1, inRB_iff.1 h'.2, fun k hk => rowA_in h'.2 h1.2.2 h1.1.1 hk, cropS_size h'.2 h1.2.2 h1.1.1⟩
  unfold cropV
  generalize (picB W H s && inRB W H l t a b) = R at *
  go_enter Try.func32, Try.ntmps32
  go_wp2_with fail
  generalize hW : World.alloc w _ = V
  have A0 : Blk V w.heap.size #[.int .i64 W, .int .i64 H, .string s] 25 := by rw [← hW]; exact Blk.new w _ _
  have hs0 : V.heap.size = w.heap.size + 1 := by rw [← hW]; simp
  have hb0 : Below w.heap.size w V := by rw [← hW]; exact (Below.refl _ _).alloc (Nat.le_refl _) _
  clear hW
  generalize hX : World.alloc V _ = X
  have A1 : Blk X w.heap.size #[.int .i64 W, .int .i64 H, .string s] 25 := by rw [← hX]; exact A0.alloc _
  have B1 : Blk X (w.heap.size + 1) #[.int .i64 l, .int .i64 t, .int .i64 a, .int .i64 b] 31 := by rw [← hX, ← hs0]; exact Blk.new V _ _
  have hs1 : X.heap.size = w.heap.size + 1 + 1 := by rw [← hX]; simp [hs0]
  have hb1 : Below w.heap.size w X := by rw [← hX]; exact hb0.alloc hb0.size _
  clear hX hb0 A0 hs0
  generalize hY : World.alloc X _ = Y
  have A2 : Blk Y w.heap.size #[.int .i64 W, .int .i64 H, .string s] 25 := by rw [← hY]; exact A1.alloc _
  have B2 : Blk Y (w.heap.size + 1) #[.int .i64 l, .int .i64 t, .int .i64 a, .int .i64 b] 31 := by rw [← hY]; exact B1.alloc _
  have C2 : Blk Y (w.heap.size + 1 + 1) #[.int .i64 0, .int .i64 0, .string ⟨#[]⟩] 25 := by rw [← hY, ← hs1]; exact Blk.new X _ _
  have hb2 : Below w.heap.size w Y := by rw [← hY]; exact hb1.alloc hb1.size _
  clear hY hb1 A1 B1 hs1
  have BK : Hid (∀ w', Below Y.heap.size Y w' → CutIn w' w.heap.size (w.heap.size + 1) (w.heap.size + 1 + 1) W H s l t a b) := fun w' h => ⟨(A2.below h A2.lt).three.1, (B2.below h B2.lt).four.1, C2.below h C2.lt⟩
  have hlt2 := C2.lt
  clear A2 B2 C2
  refine (CO.out Y).mono ?_
  rintro e w1 ⟨rfl, hc1⟩
  obtain ⟨⟨x0, x1, x2⟩, ⟨y0, y1, y2, y3⟩, K1⟩ := BK.out w1 hc1
  have hb3 := hb2.trans (hc1.mono hb2.size)
  obtain ⟨⟨z0, z1, z2⟩, f0, f1, f2⟩ := K1.three
  cases R with
  | false =>
    have KR := K1.pic (.int .i64 0) (.int .i64 0) (.string ⟨#[]⟩)
    have hbr := below_pic hb3 (g := w.heap.size + 1 + 1) (by omega) (.int .i64 0) (.int .i64 0) (.string ⟨#[]⟩)
    clear K1 hb3 hc1
    go_wp2
    (try simp only [Exit.inBlock, Exit.then])
    refine bodyPost_ret (results_cell_and rfl _ _ (w.heap.size + 1 + 1) 25 _ (0, 0) _ rfl KR Try.underlying25 rfl (by kernel_rfl)) rfl ?_
    exact ⟨rfl, hbr⟩
  | true =>
    obtain ⟨⟨p1, p2, p3⟩, ⟨⟨q1, q2, q3⟩, q4, q5, q6⟩, HR1, HR2⟩ := HP.out rfl
    have HRx : Hid (∀ k : Nat, (k : Int) < b → (t + (k : Int)) * W + l = (rowA W l t k : Int) ∧ 0 ≤ (t + (k : Int)) * W ∧ (rowA W l t k : Int) + a ≤ (s.size : Int)) := HR1
    have HSx : Hid (∀ k : Nat, (k : Int) ≤ b → (cropS W s l t a k).size = k * a.toNat) := HR2
    clear HP CO HR1 HR2 K1 z0 z1 z2 f0 f1 f2 hlt2
    have hs2 := hc1.size
    have e1 : w.heap.size < w1.heap.size := by have := hb2.size; have := (BK.out w1 hc1).2.2.lt; omega
    have e2 : w.heap.size + 1 < w1.heap.size := by have := (BK.out w1 hc1).2.2.lt; omega
    obtain ⟨n, hn⟩ : ∃ n : Nat, b = (n : Int) := ⟨b.toNat, by omega⟩
    subst hn
    obtain ⟨m, hm⟩ : ∃ m : Nat, a = (m : Int) := ⟨a.toNat, by omega⟩
    subst hm
    have b3 := sides_mul p1 p2
    have o0 : (w1.alloc (.cells #[] 5)).ownsRow Y.heap.size 5 1 (.slice (some ⟨w1.heap.size, 0, none⟩) 0 0) 0 (tcells ⟨#[]⟩) := World.ownsRow_lit w1 #[] 0 hs2 (by unfold maxLen; omega) rfl
    have HO0 : Hid ((w1.alloc (.cells #[] 5)).ownsRow Y.heap.size 5 1 (.slice (some ⟨w1.heap.size, 0, none⟩) 0 0) 0 (tcells ⟨#[]⟩)) := o0
    have hb0 := hc1.alloc hc1.size (.cells #[] 5)
    clear o0
    go_wp2
    generalize w1.alloc (.cells #[] 5) = U at *
    go_loopw [6, 7] (fun v i wr => ∃ k : Nat, k ≤ n ∧ i = .int .i64 (t + (k : Int)) ∧ wr.ownsRow Y.heap.size 5 1 v (cropS W s l t (m : Int) k).size (tcells (cropS W s l t (m : Int) k)) ∧ Below Y.heap.size Y wr) (fun _ i _ => n - (intOf i - t).toNat)
    case atStart => exact ⟨0, Nat.zero_le _, by simp, HO0.out, hb0⟩
    case round =>
      obtain ⟨k, hk, rfl, hown, hb'⟩ := hrel
      clear HO0 hb0 x0 x1 x2 y0 y1 y2 y3
      obtain ⟨⟨x0, x1, x2⟩, ⟨y0, y1, y2, y3⟩, K1⟩ := BK.out wr hb'
      have l0 : (0 : Int) ≤ (k : Int) := by omega
      have hsk := HSx.out k (by omega)
      by_cases hlt : k < n
      · have l1 : (k : Int) < (n : Int) := by omega
        obtain ⟨r1, r2, r3⟩ := HRx.out k l1
        have HT : Hid (cropS W s l t (m : Int) (k + 1) = cropS W s l t (m : Int) k ++ s.extract (rowA W l t k) (rowA W l t k + m)) := rfl
        have hez : (s.extract (rowA W l t k) (rowA W l t k + m)).size = m := by rw [ByteArray.size_extract]; omega
        have hmm : m ≤ 256 := by omega
        have hkm : (cropS W s l t (m : Int) k).size ≤ 65536 := by
          rw [hsk]
          have : k * (m : Int).toNat ≤ 256 * 256 := Nat.mul_le_mul (by omega) (by simpa using hmm)
          omega
        have hbs := hb'.size
        generalize hA : rowA W l t k = A at *
        obtain ⟨z, hz⟩ : ∃ z : Int, (t + (k : Int)) * W = z := ⟨_, rfl⟩
        rw [hz] at r1 r2
        have r4 : z ≤ 65536 := by omega
        generalize cropS W s l t (m : Int) k = S at *
        have hzw : 0 ≤ (t + (k : Int)) * W ∧ (t + (k : Int)) * W ≤ 65536 := by rw [hz]; exact ⟨r2, r4⟩
        have r5 : (A : Int) + (m : Int) ≤ (s.size : Int) := r3
        have r6 : (0 : Int) ≤ (A : Int) := by omega
        have r7 : A + m ≤ s.size := by omega
        clear hA hsk K1 r3
        have hq1 : S.size + (s.extract A (A + m)).size ≤ maxLen := by rw [hez]; unfold maxLen; omega
        have hq2 : S.size + (s.extract A (A + m)).size ≤ 140737488355328 := by rw [hez]; omega
        have HQ : Hid (S.size + (s.extract A (A + m)).size ≤ maxLen ∧ S.size + (s.extract A (A + m)).size ≤ 140737488355328) := ⟨hq1, hq2⟩
        clear hez hq1 hq2 hkm
        go_wp2_with (at_builtin; refine Lib.wpList_append_own_string _ (by rfl) _ _ 22 9 (by rfl) Y.heap.size 5 i0 Try.underlying22 Try.underlying9 hi0 hz0 hz1 hz2 _ S.size _ (by rfl) hown (s.extract A (A + m)) (by rfl) HQ.out.1 HQ.out.2 hbs ?_; intro v2 w4 hown2 hgrow2 hiff2; have hb4 := hb'.grown hgrow2 hbs (fun j hj => (hown.lt j hj).1); clear hiff2 hgrow2 hown)
        have hown3 : w4.ownsRow Y.heap.size 5 1 v2 (cropS W s l t (m : Int) (k + 1)).size (tcells (cropS W s l t (m : Int) (k + 1))) := by
          rw [HT.out, ← tcells_app, ByteArray.size_append]
          exact hown2
        clear hown2
        go_roundw
        case rel => exact ⟨k + 1, by omega, by go_num, hown3, hb4⟩
        case measure => simp [intOf]; omega
      · obtain rfl : k = n := by omega
        obtain ⟨Z, hZ⟩ : ∃ Z, cropS W s l t (m : Int) k = Z := ⟨_, rfl⟩
        have HZ : Hid (cropS W s l t (m : Int) k = Z) := hZ
        rw [hZ] at hown
        have hconv : (convert 22 9 u6).run Try.prog wr = .ok (.string Z) wr := conv_text hown
        obtain ⟨⟨z0, z1, z2⟩, f0, f1, f2⟩ := K1.three
        have hb7 := hb2.trans (hb'.mono hb2.size)
        have KR := K1.pic (.int .i64 (m : Int)) (.int .i64 (k : Int)) (.string Z)
        have hbr := below_pic hb7 (g := w.heap.size + 1 + 1) (by omega) (.int .i64 (m : Int)) (.int .i64 (k : Int)) (.string Z)
        clear hZ hsk K1 hb7 hb' hown
        go_wp2
        (try simp only [Exit.inBlock, Exit.then])
        refine bodyPost_ret (results_cell_and rfl _ _ (w.heap.size + 1 + 1) 25 _ (0, 0) _ rfl KR Try.underlying25 rfl (by kernel_rfl)) rfl ?_
        refine ⟨?_, hbr⟩
        rw [HZ.out]
        rfl
end Go.Proofs.Ytpodpfdbklffgaa
