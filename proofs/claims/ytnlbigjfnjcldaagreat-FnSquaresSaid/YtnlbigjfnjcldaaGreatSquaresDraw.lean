/-
  Up to four drawn squares of a drawn condition: the walk of spec.DrawSquares.
-/
import Derived.Test.YtnlbigjfnjcldaaGreatSquareDraw
namespace Go.Proofs.YtnlbigjfnjcldaaGreat
open Go.RowKit
set_option linter.unusedVariables false
set_option maxRecDepth 20000

/-- A result, and a struct out of its variable. -/
theorem results_and_cell {P : Program} {fn : Func} {p u : Tmp} {ty : TypeId} (h : fn.results = #[.tmp u, .cell p ty]) (tmps : Array Value) (w : World) (g : Nat) (t : TypeId) (cs : Array Value) (fr : Nat × Nat) (d : TypeDesc)
    (hp : tmps.getD p undef = .pointer (some ⟨g, 0, none⟩)) (hg : w.heap[g]? = some (.cells cs t fr))
    (hu : P.underlying ty = some d) (hd : (match d with | .struct _ | .array _ _ => true | _ => false) = true) (hi : (P.info? ty).map (·.size) = some cs.size) :
    (results fn tmps).run P w = .ok (.tuple #[tmps.getD u undef, .agg cs]) w := by
  have hp' : tmps[p]?.getD undef = .pointer (some ⟨g, 0, none⟩) := by simpa using hp
  simp [results, h, hp', asAddr, Result.andThen, run_loadVar_row w g t ty cs fr d hg hu hd hi]
theorem curAt_of {w : World} {g len : Nat} {a : Option Addr} {S : Nat × Int} (h : CurV w g a len S) : CurAt w g a len := by
  obtain ⟨cap, h1, h2⟩ := h
  exact ⟨cap, _, _, h1, h2⟩
theorem fill4 {W : World} {g : Nat} {z0 z1 z2 z3 : Value} {t : TypeId} (Z : Blk W g #[z0, z1, z2, z3] t) (v0 v1 v2 v3 : Value) :
    Blk ((((W.setCell ⟨g, 0, none⟩ v0).setCell ⟨g, 1, none⟩ v1).setCell ⟨g, 2, none⟩ v2).setCell ⟨g, 3, none⟩ v3) g #[v0, v1, v2, v3] t :=
  ((((Z.set 0 v0 (by simp)).set 1 v1 (by simp)).set 2 v2 (by simp)).set 3 v3 (by simp))
theorem own4 {W : World} {g B e sz n : Nat} {v : Value} {xs : List Value} (h : W.ownsRow B e sz v n xs) (hg : g < B) (v0 v1 v2 v3 : Value) :
    ((((W.setCell ⟨g, 0, none⟩ v0).setCell ⟨g, 1, none⟩ v1).setCell ⟨g, 2, none⟩ v2).setCell ⟨g, 3, none⟩ v3).ownsRow B e sz v n xs :=
  ownsRow_setCell_below (ownsRow_setCell_below (ownsRow_setCell_below (ownsRow_setCell_below h (a := ⟨g, 0, none⟩) hg v0) (a := ⟨g, 1, none⟩) hg v1) (a := ⟨g, 2, none⟩) hg v2) (a := ⟨g, 3, none⟩) hg v3

set_option maxHeartbeats 6400000 in
theorem drawSquares_any (a : Option Addr) (cap B : Nat) (zs : List Int) (w : World) (hc : CodeV w B a zs) (hcr : CodeRow w B a zs.length) (hB : B ≤ w.heap.size) :
    Calls Tryz.prog 8 #[.slice a zs.length cap] w fun e w' => ∃ (ts : List SqT) (k : Bool) (q : Int) (g x : Bool), (∃ v, e = .returned (.tuple #[v, conV k q g x]) ∧ w'.ownsRow w.heap.size 34 5 v ts.length (sqsC ts)) ∧ parB q g x = true ∧ 1 ≤ ts.length ∧ ts.length ≤ 4 ∧ (∀ t ∈ ts, SqGood w' w.heap.size k t) ∧ Below w.heap.size w w' := by
  have Z0 := Blk.new w #[.bool false, .int .i64 0, .bool false, .bool false] 26
  have hb0 := (Below.refl w.heap.size w).alloc (Nat.le_refl _) (.cells #[.bool false, .int .i64 0, .bool false, .bool false] 26)
  have HC : Hid (∀ w', Below w.heap.size w w' → CodeV w' B a zs ∧ CodeRow w' B a zs.length) := fun w' h => ⟨hc.below (h.mono hB), hcr.below (h.mono hB)⟩
  clear hc hcr
  generalize hlen : zs.length = len at *
  go_enter Tryz.func8, Tryz.ntmps8
  go_wp2_with fail
  generalize World.alloc w _ = W at *
  have hbs := hb0.size
  have CN := new_val a cap B zs W (HC.out W hb0).1 (by omega)
  rw [hlen] at CN
  refine CN.mono ?_
  rintro e w1 ⟨rfl, k1, hc1⟩
  have hb1 := hb0.trans (hc1.mono hbs)
  have Z1 := Z0.below hc1 Z0.lt
  have hsg : w.heap.size < W.heap.size := Z0.lt
  clear Z0 CN hc1 hb0
  go_wp2_with fail
  have CD := l14Cond_any W.heap.size a zs B (newF zs) w1 (HC.out w1 hb1).1 (by omega) (by rw [hlen]; exact k1)
  rw [hlen] at CD
  refine CD.mono ?_
  rintro e w2 ⟨⟨k, q, g, x, rfl, hp⟩, hg, S', kS⟩
  have hgl := k1.lt
  have Z2 := Z1.grew hg (by intro e; have := Option.some.inj e; omega)
  have hb2 : Below w.heap.size w w2 := hb1.grown hg hb1.size (fun j hj => by cases hj; exact hbs)
  have HP : Hid (parB q g x = true) := hp
  have hgd : W.heap.size < w2.heap.size := by have := hg.size; omega
  have kA := curAt_of kS
  clear hp CD Z1 hb1 kS k1 hg hgl
  go_wp2_with fail
  have D0 : Blk (w2.alloc (.cells #[.bool k, .int .i64 q, .bool g, .bool x] 26)) w2.heap.size _ _ := Blk.new w2 #[.bool k, .int .i64 q, .bool g, .bool x] 26
  have Z3 := Z2.alloc (.cells #[.bool k, .int .i64 q, .bool g, .bool x] 26)
  have hb3 := hb2.alloc hb2.size (.cells #[.bool k, .int .i64 q, .bool g, .bool x] 26)
  have kV := kA.kept (World.grownBy_alloc w2 (.cells #[.bool k, .int .i64 q, .bool g, .bool x] 26) none) (by simp)
  clear kA Z2 hb2
  generalize w2.alloc _ = V at *
  generalize hgcn : W.heap.size = gc at *
  generalize hgdn : w2.heap.size = gd at *
  generalize hsn : w.heap.size = s at *
  have hsV : gd < V.heap.size := D0.lt
  have n1 : gc ≠ s := by omega
  have n2 : gd ≠ s := by omega
  have n3 : ¬ s = gd := by omega
  have n4 : ¬ gd = s := by omega
  have HC2 : Hid (∀ U, CurAt U gc a len → Below s w U → CodeRow U B a len) := fun U _ h => (HC.out U h).2
  have CB : Hid (∀ U, CurAt U gc a len → Below s w U → Calls Tryz.prog 27 #[.pointer (some ⟨gc, 0, none⟩), .int .i64 4] U fun e U' => ∃ m : Nat, e = .returned (.int .i64 (m : Int)) ∧ m < 4 ∧ CurKept U U' gc a len) := fun U h1 h2 => by
    refine (below_any gc a len B 4 U (HC2.out U h1 h2) (by omega) h1 (by decide) (by decide)).mono ?_
    rintro e U' ⟨y, rfl, y0, y1, hk⟩
    obtain ⟨m, rfl⟩ := Int.eq_ofNat_of_zero_le y0
    exact ⟨m, rfl, by omega, hk⟩
  have CS : Hid (∀ (m : Nat) U, m < 4 → CurAt U gc a len → Below s w U → Calls Tryz.prog 26 #[.pointer (some ⟨gc, 0, none⟩), .int .i64 (1 + (m : Int)), conV k q g x] U fun e U' => ∃ ts : List SqT, ts.length = m + 1 ∧ (∃ v, e = .returned v ∧ U'.ownsRow U.heap.size 34 5 v ts.length (sqsC ts)) ∧ (∀ t ∈ ts, SqGood U' U.heap.size k t) ∧ CurKept U U' gc a len) := fun m U hm h1 h2 => by
    have := l16Squares_any gc a len B (m + 1) k q g x U (HC2.out U h1 h2) (by omega) h1 (by omega)
    rwa [show ((m + 1 : Nat) : Int) = 1 + (m : Int) by omega] at this
  clear HC HC2
  have HK : Hid (∀ U, CurKept V U gc a len → ((U.cell? ⟨gd, 0, none⟩ = some (.bool k) ∧ U.cell? ⟨gd, 1, none⟩ = some (.int .i64 q) ∧ U.cell? ⟨gd, 2, none⟩ = some (.bool g) ∧ U.cell? ⟨gd, 3, none⟩ = some (.bool x)) ∧ (U.cell? ⟨s, 0, none⟩ = some (.bool false) ∧ U.cell? ⟨s, 1, none⟩ = some (.int .i64 0) ∧ U.cell? ⟨s, 2, none⟩ = some (.bool false) ∧ U.cell? ⟨s, 3, none⟩ = some (.bool false)) ∧ (U.frozen? ⟨s, 0, none⟩ = false ∧ U.frozen? ⟨s, 1, none⟩ = false ∧ U.frozen? ⟨s, 2, none⟩ = false ∧ U.frozen? ⟨s, 3, none⟩ = false)) ∧ Blk U s #[.bool false, .int .i64 0, .bool false, .bool false] 26 ∧ Below s w U) := fun U h => by
    have d := D0.grew h.2 (by intro e; have := Option.some.inj e; omega)
    have z := Z3.grew h.2 (by intro e; have := Option.some.inj e; omega)
    exact ⟨⟨d.four.1, z.four.1, z.four.2⟩, z, hb3.grown h.2 (by omega) (fun j hj => by cases hj; omega)⟩
  have hkV : CurKept V V.drew gc a len := ⟨kV, ⟨rfl, rfl, rfl, Nat.le_refl _, fun _ _ _ => rfl⟩⟩
  obtain ⟨⟨⟨d0, d1, d2, d3⟩, ⟨z0, z1, z2, z3⟩, f0, f1, f2, f3⟩, _, hbV⟩ := HK.out V ⟨kV, ⟨rfl, rfl, rfl, Nat.le_refl _, fun _ _ _ => rfl⟩⟩
  clear D0 Z3
  go_region_held3 (fun w' => ((w'.cell? ⟨gd, 0, none⟩ = some (.bool k) ∧ w'.cell? ⟨gd, 1, none⟩ = some (.int .i64 q) ∧ w'.cell? ⟨gd, 2, none⟩ = some (.bool g) ∧ w'.cell? ⟨gd, 3, none⟩ = some (.bool x)) ∧ (w'.frozen? ⟨s, 0, none⟩ = false ∧ w'.frozen? ⟨s, 1, none⟩ = false ∧ w'.frozen? ⟨s, 2, none⟩ = false ∧ w'.frozen? ⟨s, 3, none⟩ = false)))
    (first | (with_reducible exact hS) | go_keep)
    (first
      | (go_at_call 27; refine (CB.out _ hkV.1 hbV.drew).mono ?_; rintro e uA ⟨m, rfl, hm, hk⟩; have hkA : CurKept V uA gc a len := ck_trans hkV hk; obtain ⟨⟨hd, _, hf⟩, _, hbA⟩ := HK.out uA hkA; have hS := And.intro hd hf; clear hd hf; have hw : IntKind.i64.wrap (1 + (m : Int)) = 1 + (m : Int) := (IntWalk.i64_in _ ⟨by omega, by omega⟩); clear hk)
      | (go_at_call 26; refine (CS.out m _ hm hkA.1 hbA).mono ?_; rintro e uB ⟨ts, hlt, ⟨v, rfl, ho⟩, hgo, hk2⟩; have hkB := ck_trans hkA hk2; obtain ⟨⟨hd, ⟨z0, z1, z2, z3⟩, hf⟩, hZB, hbB⟩ := HK.out uB hkB; have hS := And.intro hd hf; clear hd hf; have hsA : s < uA.heap.size := Nat.lt_of_lt_of_le (by omega : s < V.heap.size) hkA.2.size))
  all_goals
    have FF : Hid (Blk _ _ _ _) := fill4 hZB (.bool k) (.int .i64 q) (.bool g) (.bool x)
    have FO : Hid (World.ownsRow _ _ _ _ _ _ _) := own_mono (B' := s) (own4 ho hsA (.bool k) (.int .i64 q) (.bool g) (.bool x)) (by omega)
    have FG : Hid (∀ t ∈ ts, SqGood ((((uB.setCell ⟨s, 0, none⟩ (.bool k)).setCell ⟨s, 1, none⟩ (.int .i64 q)).setCell ⟨s, 2, none⟩ (.bool g)).setCell ⟨s, 3, none⟩ (.bool x)) s k t) := fun t ht => ⟨(hgo t ht).ok, (hgo t ht).key, own_mono (own4 (hgo t ht).own hsA (.bool k) (.int .i64 q) (.bool g) (.bool x)) (by omega)⟩
    have FB : Hid (Below _ _ _) := (((hbB.setCell (p := ⟨s, 0, none⟩) (Nat.le_refl _) (.bool k)).setCell (p := ⟨s, 1, none⟩) (Nat.le_refl _) (.int .i64 q)).setCell (p := ⟨s, 2, none⟩) (Nat.le_refl _) (.bool g)).setCell (p := ⟨s, 3, none⟩) (Nat.le_refl _) (.bool x)
    clear hS hZB ho hgo hbB hk2 hkB hkA hbA hkV hbV
    go_wp2
    (try simp only [Exit.inBlock, Exit.then])
    refine bodyPost_ret (results_and_cell rfl _ _ s 26 _ (0, 0) _ rfl FF.out Tryz.underlying26 rfl (by kernel_rfl)) rfl ?_
    exact ⟨ts, k, q, g, x, ⟨_, rfl, by rw [hsn]; exact FO.out⟩, HP.out, by omega, by omega, by rw [hsn]; exact FG.out, by rw [hsn]; exact FB.out⟩
end Go.Proofs.YtnlbigjfnjcldaaGreat
