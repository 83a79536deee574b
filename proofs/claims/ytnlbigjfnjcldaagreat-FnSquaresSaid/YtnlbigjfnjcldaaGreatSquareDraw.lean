/-
  Drawn squares: the walks of spec.l15Square, spec.l16Squares and spec.DrawSquares.
-/
import Derived.Test.YtnlbigjfnjcldaaGreatSquareRead
import Derived.Test.YtnlbigjfnjcldaaGreatDrawAll
import Derived.Deep.RegionHeld3
import Derived.Deep.AppendLies
namespace Go.Proofs.YtnlbigjfnjcldaaGreat
open Go.RowKit
set_option linter.unusedVariables false
set_option maxRecDepth 20000

theorem infoQ : (Tryz.prog.info? 34).map (fun i => (i.zero, i.size, i.bytes)) = some (some (.agg #[.int .i64 0, .int .i64 0, .int .i64 0, .int .i64 0, .slice none 0 0]), 5, 56) := by kernel_rfl

theorem own_apart {w : World} {B B' e e' s s' n n' : Nat} {v v' : Value} {xs xs' : List Value} (h : w.ownsRow B e s v n xs) (h' : w.ownsRow B' e' s' v' n' xs') (hne : e ≠ e') : v.ownBlock = none ∨ v.ownBlock ≠ v'.ownBlock := by
  rcases h.2 with ⟨rfl, _⟩ | ⟨g, c, cur, rfl, _, hg, _⟩
  · exact .inl rfl
  · right
    rcases h'.2 with ⟨rfl, _⟩ | ⟨g', c', cur', rfl, _, hg', _⟩
    · intro h; cases h
    · intro h
      have h2 : g = g' := Option.some.inj h
      subst h2
      rw [hg] at hg'
      cases hg'
      exact hne rfl
theorem ck_trans {w w1 w2 : World} {g len : Nat} {a : Option Addr} (h1 : CurKept w w1 g a len) (h2 : CurKept w1 w2 g a len) : CurKept w w2 g a len := ⟨h2.1, h1.2.trans h2.2⟩
theorem ck_alloc {w w1 : World} {g len : Nat} {a : Option Addr} (h1 : CurKept w w1 g a len) (o : Obj) : CurKept w (w1.alloc o) g a len := ⟨h1.1.kept (World.grownBy_alloc w1 o none) (by simp), h1.2.trans (World.grownBy_alloc w1 o _)⟩
theorem ck_code {w w1 : World} {g B len : Nat} {a : Option Addr} (h1 : CurKept w w1 g a len) (hc : CodeRow w B a len) (hB : B ≤ g) (hg : g < w.heap.size) : CodeRow w1 B a len := hc.below (below_of_grown h1.2 (by omega) (fun k hk => by cases hk; exact hB))
theorem ck_set {w w1 : World} {g len b : Nat} {a : Option Addr} (h1 : CurKept w w1 g a len) (hb : w.heap.size ≤ b) (hg : g < w.heap.size) (j : Nat) (v : Value) : CurKept w (w1.setCell ⟨b, j, none⟩ v) g a len :=
  ⟨h1.1.kept (grown_setCell w1 ⟨b, j, none⟩ v) (by simp; omega), h1.2.andThen (grown_setCell w1 ⟨b, j, none⟩ v) (fun k hk => by cases hk; exact .inl hb)⟩
theorem ck_fill {w w1 : World} {g len b : Nat} {a : Option Addr} (h1 : CurKept w w1 g a len) (hb : w.heap.size ≤ b) (hg : g < w.heap.size) (v0 v1 v2 v3 v4 : Value) :
    CurKept w (((((w1.setCell ⟨b, 0, none⟩ v0).setCell ⟨b, 1, none⟩ v1).setCell ⟨b, 2, none⟩ v2).setCell ⟨b, 3, none⟩ v3).setCell ⟨b, 4, none⟩ v4) g a len :=
  ck_set (ck_set (ck_set (ck_set (ck_set h1 hb hg 0 v0) hb hg 1 v1) hb hg 2 v2) hb hg 3 v3) hb hg 4 v4

/-- A square of a list. -/
structure SqT where
  kd : Int
  md : Int
  dx : Int
  dy : Int
  a : Option Addr
  c : Nat
  xs : List Int
abbrev SqT.val (t : SqT) : Value := sqV t.kd t.md t.dx t.dy t.a t.xs.length t.c
abbrev SqT.cells (t : SqT) : List Value := [.int .i64 t.kd, .int .i64 t.md, .int .i64 t.dx, .int .i64 t.dy, .slice t.a t.xs.length t.c]
/-- A right square, which the condition lets be, with its levels in memory of its own. -/
structure SqGood (w : World) (B : Nat) (k : Bool) (t : SqT) : Prop where
  ok : sqOkB t.kd t.md t.dx t.dy t.xs = true
  key : k = true → t.kd = 2
  own : w.ownsRow B 3 1 (.slice t.a t.xs.length t.c) t.xs.length (t.xs.map (Value.int .i64))
def sqsC (ts : List SqT) : List Value := ts.flatMap SqT.cells
theorem sqsC_snoc (ts : List SqT) (t : SqT) : sqsC (ts ++ [t]) = sqsC ts ++ t.cells := by simp [sqsC]
theorem sqsC_length : ∀ ts : List SqT, (sqsC ts).length = ts.length * 5
  | [] => rfl
  | t :: ts => by
    have := sqsC_length ts
    have e : sqsC (t :: ts) = t.cells ++ sqsC ts := rfl
    rw [e, List.length_append, this]
    simp
    omega
theorem sqsC_get : ∀ (ts : List SqT) (k j : Nat) (t : SqT), ts[k]? = some t → j < 5 → (sqsC ts)[k * 5 + j]? = t.cells[j]?
  | [], k, j, t, h, _ => by simp at h
  | u :: ts, 0, j, t, h, hj => by
    have e : sqsC (u :: ts) = u.cells ++ sqsC ts := rfl
    simp at h
    subst h
    rw [e, List.getElem?_append_left (by simp; omega)]
    congr 1
    omega
  | u :: ts, k + 1, j, t, h, hj => by
    have e : sqsC (u :: ts) = u.cells ++ sqsC ts := rfl
    rw [e, List.getElem?_append_right (by simp; omega)]
    have := sqsC_get ts k j t (by simpa using h) hj
    rw [← this]
    congr 1
    simp
    omega
theorem SqGood.mono {w : World} {B B' : Nat} {k : Bool} {t : SqT} (h : SqGood w B k t) (hB : B' ≤ B) : SqGood w B' k t := ⟨h.ok, h.key, own_mono h.own hB⟩
theorem SqGood.kept {w w' : World} {B : Nat} {k : Bool} {t : SqT} {row : Option Nat} (h : SqGood w B k t) (hg : w.grownBy w' row) (hne : (Value.slice t.a t.xs.length t.c).ownBlock = none ∨ (Value.slice t.a t.xs.length t.c).ownBlock ≠ row) : SqGood w' B k t := ⟨h.ok, h.key, h.own.kept hg hne⟩
theorem SqGood.cur {w w' : World} {B g len : Nat} {a : Option Addr} {k : Bool} {t : SqT} (h : SqGood w B k t) (hk : CurKept w w' g a len) (hg : g < B) : SqGood w' B k t :=
  h.kept hk.2 (.inr fun e => by have := (h.own.lt g e).1; omega)

theorem sqB_list {f : Nat → Int} (h : ∀ j, -5000 ≤ f j ∧ f j ≤ 5000) : sqB 5000 (listF 64 f) = true :=
  sqB_iff.2 ⟨listF_length _ _, inB_iff.2 fun i hi => by rw [listF_length] at hi; rw [listF_get _ hi]; exact h i⟩
theorem sqOk_g {md : Int} {xs : List Int} (h0 : 0 ≤ md) (h1 : md < 4) (h : sqB 5000 xs = true) : sqOkB 2 md 0 0 xs = true := by
  rw [sqOk_2, h, decide_eq_true h0, decide_eq_true (show md ≤ 3 by omega)]
  rfl
theorem sqOk_m {dx dy : Int} {xs : List Int} (h0 : -16 ≤ dx ∧ dx ≤ 16) (h1 : -16 ≤ dy ∧ dy ≤ 16) (h : sqB 5000 xs = true) : sqOkB 1 0 dx dy xs = true := by
  rw [sqOk_1, h, decide_eq_true h0.1, decide_eq_true h0.2, decide_eq_true h1.1, decide_eq_true h1.2]
  rfl

set_option maxHeartbeats 3200000 in
theorem l15Square_any (g : Nat) (a : Option Addr) (len B : Nat) (k : Bool) (q : Int) (gg x : Bool) (w : World) (hc : CodeRow w B a len) (hB : B ≤ g) (hcur : CurAt w g a len) :
    Calls Tryz.prog 49 #[.pointer (some ⟨g, 0, none⟩), conV k q gg x] w fun e w' => ∃ t : SqT, e = .returned t.val ∧ SqGood w' w.heap.size k t ∧ CurKept w w' g a len := by
  have hgw := hcur.lt
  have HCd : Hid (∀ w', CurKept w w' g a len → CodeRow w' B a len) := fun w' h => ck_code h hc hB hgw
  have K0 : CurKept w ((w.alloc (.cells #[.bool k, .int .i64 q, .bool gg, .bool x] 26)).alloc (.cells (sqC 0 0 0 0 none 0 0) 34)) g a len := ck_alloc (ck_alloc ⟨hcur, ⟨rfl, rfl, rfl, Nat.le_refl _, fun _ _ _ => rfl⟩⟩ _) _
  clear hc hcur
  -- the last way: a guess
  have CG : Hid (∀ (W : World), CurKept w W g a len → Blk W (w.heap.size + 1) (sqC 0 0 0 0 none 0 0) 34 →
      (Calls Tryz.prog 27 #[.pointer (some ⟨g, 0, none⟩), .int .i64 4] W fun e w1 => ∃ md : Int, e = .returned (.int .i64 md) ∧ (0 ≤ md ∧ md < 4) ∧ CurKept w w1 g a len ∧ Blk w1 (w.heap.size + 1) (sqC 0 0 0 0 none 0 0) 34)) := fun W hK hZ => by
    refine (below_any g a len B 4 W (HCd.out W hK) hB hK.1 (by decide) (by decide)).mono ?_
    rintro e w1 ⟨md, rfl, h0, h1, hk⟩
    exact ⟨md, rfl, ⟨h0, h1⟩, ck_trans hK hk, hZ.grew hk.2 (by intro e; cases e; omega)⟩
  have CL : Hid (∀ (W : World), CurKept w W g a len → Blk W (w.heap.size + 1) (sqC 0 0 0 0 none 0 0) 34 →
      (Calls Tryz.prog 63 #[.pointer (some ⟨g, 0, none⟩), .int .i64 64] W fun e w1 => ∃ (p : Nat) (f : Nat → Int), e = .returned (.slice (some ⟨p, 0, none⟩) 64 64) ∧ w.heap.size + 1 < p ∧ sqB 5000 (listF 64 f) = true ∧ w1.ownsRow (w.heap.size + 2) 3 1 (.slice (some ⟨p, 0, none⟩) 64 64) 64 ((listF 64 f).map (Value.int .i64)) ∧ CurKept w w1 g a len ∧ Blk w1 (w.heap.size + 1) (sqC 0 0 0 0 none 0 0) 34 ∧ p < w1.heap.size)) := fun W hK hZ => by
    refine (levels_any g a len B 64 W (HCd.out W hK) hB hK.1 (by decide) (by decide)).mono ?_
    rintro e w1 ⟨rfl, f, hD⟩
    have := hZ.lt
    exact ⟨W.heap.size, f, rfl, hZ.lt, sqB_list hD.bd, own_mono hD.own (by omega), ck_trans hK ⟨hD.cur, hD.grew⟩, hZ.grew hD.grew (by intro e; cases e; omega), hD.size⟩
  have CO : Hid (∀ (W : World) (n : Int), 1 ≤ n → n ≤ 100 → CurKept w W g a len → Blk W (w.heap.size + 1) (sqC 0 0 0 0 none 0 0) 34 →
      (Calls Tryz.prog 48 #[.pointer (some ⟨g, 0, none⟩), .int .i64 n] W fun e w1 => ∃ b : Bool, e = .returned (.bool b) ∧ CurKept W w1 g a len)) := fun W n h1 h2 hK hZ =>
    onceL g a len B n W (HCd.out W hK) hB hK.1 h1 (by omega)
  have CB : Hid (∀ (W : World) (n : Int), 1 ≤ n → n ≤ 100 → CurKept w W g a len →
      (Calls Tryz.prog 27 #[.pointer (some ⟨g, 0, none⟩), .int .i64 n] W fun e w1 => ∃ y : Int, e = .returned (.int .i64 y) ∧ 0 ≤ y ∧ y < n ∧ CurKept W w1 g a len)) := fun W n h1 h2 hK =>
    below_any g a len B n W (HCd.out W hK) hB hK.1 h1 (by omega)
  clear HCd
  have FIN : Hid (∀ (W : World) (md : Int) (p : Nat) (f : Nat → Int), (0 ≤ md ∧ md < 4) → w.heap.size + 1 < p → sqB 5000 (listF 64 f) = true → W.ownsRow (w.heap.size + 2) 3 1 (.slice (some ⟨p, 0, none⟩) 64 64) 64 ((listF 64 f).map (Value.int .i64)) → CurKept w W g a len → Blk W (w.heap.size + 1) (sqC 0 0 0 0 none 0 0) 34 →
      Blk (((((W.setCell ⟨w.heap.size + 1, 0, none⟩ (.int .i64 2)).setCell ⟨w.heap.size + 1, 1, none⟩ (.int .i64 md)).setCell ⟨w.heap.size + 1, 2, none⟩ (.int .i64 0)).setCell ⟨w.heap.size + 1, 3, none⟩ (.int .i64 0)).setCell ⟨w.heap.size + 1, 4, none⟩ (.slice (some ⟨p, 0, none⟩) 64 64)) (w.heap.size + 1) (sqC 2 md 0 0 (some ⟨p, 0, none⟩) 64 64) 34 ∧
      ∃ t : SqT, (.agg (sqC 2 md 0 0 (some ⟨p, 0, none⟩) 64 64) : Value) = t.val ∧ SqGood (((((W.setCell ⟨w.heap.size + 1, 0, none⟩ (.int .i64 2)).setCell ⟨w.heap.size + 1, 1, none⟩ (.int .i64 md)).setCell ⟨w.heap.size + 1, 2, none⟩ (.int .i64 0)).setCell ⟨w.heap.size + 1, 3, none⟩ (.int .i64 0)).setCell ⟨w.heap.size + 1, 4, none⟩ (.slice (some ⟨p, 0, none⟩) 64 64)) w.heap.size k t ∧ CurKept w (((((W.setCell ⟨w.heap.size + 1, 0, none⟩ (.int .i64 2)).setCell ⟨w.heap.size + 1, 1, none⟩ (.int .i64 md)).setCell ⟨w.heap.size + 1, 2, none⟩ (.int .i64 0)).setCell ⟨w.heap.size + 1, 3, none⟩ (.int .i64 0)).setCell ⟨w.heap.size + 1, 4, none⟩ (.slice (some ⟨p, 0, none⟩) 64 64)) g a len) := fun W md p f hm hp hs ho hK hZ => by
    refine ⟨(qFill hZ rfl (Below.refl 0 W) (Nat.zero_le _) _ _ _ _ _).1, ⟨2, md, 0, 0, some ⟨p, 0, none⟩, 64, listF 64 f⟩, by simp [SqT.val, listF_length], ⟨sqOk_g hm.1 hm.2 hs, fun _ => rfl, ?_⟩, ck_fill hK (by omega) hgw _ _ _ _ _⟩
    rw [listF_length]
    exact own_mono (ownFill ho (by omega) _ _ _ _ _) (by omega)
  have Z0 : Blk ((w.alloc (.cells #[.bool k, .int .i64 q, .bool gg, .bool x] 26)).alloc (.cells (sqC 0 0 0 0 none 0 0) 34)) (w.heap.size + 1) (sqC 0 0 0 0 none 0 0) 34 := Blk.new' _ _ (by simp)
  have P0 : Blk ((w.alloc (.cells #[.bool k, .int .i64 q, .bool gg, .bool x] 26)).alloc (.cells (sqC 0 0 0 0 none 0 0) 34)) w.heap.size #[.bool k, .int .i64 q, .bool gg, .bool x] 26 := (Blk.new w _ _).alloc _
  cases k
  case true =>
    go_enter Tryz.func49, Tryz.ntmps49
    go_wp2_with fail
    generalize World.alloc (World.alloc w _) _ = V at *
    clear P0 CO CB
    refine (CG.out V K0 Z0).mono ?_
    rintro e w1 ⟨md, rfl, hm, K1, Z1⟩
    clear K0 Z0
    go_wp2_with fail
    refine (CL.out w1 K1 Z1).mono ?_
    rintro e w2 ⟨p, f, rfl, hp, hs, ho, K2, Z2, _⟩
    have FF : Hid _ := FIN.out w2 md p f hm hp hs ho K2 Z2
    obtain ⟨⟨z0, z1, z2, z3, z4⟩, e0, e1, e2, e3, e4⟩ := Z2.five
    clear K1 Z1 K2 Z2 ho hs FIN CG CL
    go_wp2
    (try simp only [Exit.inBlock, Exit.then])
    refine bodyPost_ret (results_cell_row rfl _ _ (w.heap.size + 1) 34 _ (0, 0) _ rfl FF.out.1 Tryz.underlying34 rfl (by kernel_rfl)) rfl ?_
    obtain ⟨t, h1, h2, h3⟩ := FF.out.2
    exact ⟨t, by rw [← h1], h2, h3⟩
  case false =>
    go_enter Tryz.func49, Tryz.ntmps49
    go_wp2_with fail
    generalize World.alloc (World.alloc w _) _ = V at *
    refine (CO.out V 4 (by decide) (by decide) K0 Z0).mono ?_
    rintro e w1 ⟨b, rfl, hk⟩
    have K1 := ck_trans K0 hk
    have Z1 := Z0.grew hk.2 (by intro e; cases e; omega)
    have P1 := P0.grew hk.2 (by intro e; cases e; omega)
    clear K0 Z0 P0 hk
    cases b
    case true =>
      have FF : Hid (Blk _ _ _ _) := (qFill Z1 rfl (Below.refl 0 w1) (Nat.zero_le _) (.int .i64 0) (.int .i64 0) (.int .i64 0) (.int .i64 0) (.slice none 0 0)).1
      have FK : Hid (CurKept _ _ _ _ _) := ck_fill K1 (by omega : w.heap.size ≤ w.heap.size + 1) hgw (.int .i64 0) (.int .i64 0) (.int .i64 0) (.int .i64 0) (.slice none 0 0)
      obtain ⟨⟨z0, z1, z2, z3, z4⟩, e0, e1, e2, e3, e4⟩ := Z1.five
      clear Z1 K1 P1 CO CB CG CL FIN
      go_wp2
      (try simp only [Exit.inBlock, Exit.then])
      refine bodyPost_ret (results_cell_row rfl _ _ (w.heap.size + 1) 34 _ (0, 0) _ rfl FF.out Tryz.underlying34 rfl (by kernel_rfl)) rfl ?_
      exact ⟨⟨0, 0, 0, 0, none, 0, []⟩, rfl, ⟨rfl, (fun h => by cases h), World.ownsRow_nil _ _ _ _⟩, FK.out⟩
    case false =>
    obtain ⟨⟨y0, _⟩, _⟩ := P1.four
    go_wp2_with fail
    clear y0
    refine (CO.out w1 2 (by decide) (by decide) K1 Z1).mono ?_
    rintro e w2 ⟨b, rfl, hk⟩
    have K2 := ck_trans K1 hk
    have Z2 := Z1.grew hk.2 (by intro e; cases e; omega)
    clear K1 Z1 P1 hk
    cases b
    case true =>
      clear CG FIN
      go_wp2_with fail
      refine (CB.out w2 7 (by decide) (by decide) K2).mono ?_
      rintro e w3 ⟨x', rfl, hx0, hx1, hk⟩
      have K3 := ck_trans K2 hk
      have Z3 := Z2.grew hk.2 (by intro e; cases e; omega)
      clear K2 Z2 hk
      go_wp2_with fail
      refine (CB.out w3 7 (by decide) (by decide) K3).mono ?_
      rintro e w4 ⟨y, rfl, hy0, hy1, hk⟩
      have K4 := ck_trans K3 hk
      have Z4 := Z3.grew hk.2 (by intro e; cases e; omega)
      clear K3 Z3 hk
      go_wp2_with fail
      refine (CL.out w4 K4 Z4).mono ?_
      rintro e w5 ⟨p, f, rfl, hp, hs, ho, K5, Z5, hpw⟩
      clear K4 Z4 CL
      go_wp2_with fail
      have Q6 : Blk (w5.alloc (.cells (sqC 1 0 (x' - 3) (y - 3) (some ⟨p, 0, none⟩) 64 64) 34)) w5.heap.size _ _ := Blk.new w5 _ _
      have K6 := ck_alloc K5 (.cells (sqC 1 0 (x' - 3) (y - 3) (some ⟨p, 0, none⟩) 64 64) 34)
      have Z6 := Z5.alloc (.cells (sqC 1 0 (x' - 3) (y - 3) (some ⟨p, 0, none⟩) 64 64) 34)
      have O6 := ho.alloc (.cells (sqC 1 0 (x' - 3) (y - 3) (some ⟨p, 0, none⟩) 64 64) 34)
      clear K5 Z5 ho
      generalize w5.alloc _ = V5 at *
      refine (CO.out V5 6 (by decide) (by decide) K6 Z6).mono ?_
      rintro e w6 ⟨b, rfl, hk⟩
      have K7 := ck_trans K6 hk
      have Z7 := Z6.grew hk.2 (by intro e; cases e; omega)
      have Q7 := Q6.grew hk.2 (by intro e; cases e; omega)
      have O7 := O6.kept hk.2 (.inr (by intro e; have : p = g := Option.some.inj e; omega))
      clear K6 Z6 Q6 O6 hk CO
      cases b
      case false =>
        have FF : Hid (Blk _ _ _ _) := (qFill Z7 rfl (Below.refl 0 w6) (Nat.zero_le _) (.int .i64 1) (.int .i64 0) (.int .i64 (x' - 3)) (.int .i64 (y - 3)) (.slice (some ⟨p, 0, none⟩) 64 64)).1
        have FG : Hid (SqGood _ _ _ _) := (⟨(sqOk_m (dx := (x' - 3)) (dy := y - 3) (by omega) (by omega) hs : sqOkB 1 0 (x' - 3) (y - 3) (listF 64 f) = true), (fun h => by cases h), by rw [listF_length]; exact own_mono (ownFill O7 (by omega) _ _ _ _ _) (by omega)⟩ : SqGood (((((w6.setCell ⟨w.heap.size + 1, 0, none⟩ (.int .i64 1)).setCell ⟨w.heap.size + 1, 1, none⟩ (.int .i64 0)).setCell ⟨w.heap.size + 1, 2, none⟩ (.int .i64 (x' - 3))).setCell ⟨w.heap.size + 1, 3, none⟩ (.int .i64 (y - 3))).setCell ⟨w.heap.size + 1, 4, none⟩ (.slice (some ⟨p, 0, none⟩) 64 64)) w.heap.size false ⟨1, 0, (x' - 3), y - 3, some ⟨p, 0, none⟩, 64, listF 64 f⟩)
        have FK : Hid (CurKept _ _ _ _ _) := ck_fill K7 (by omega : w.heap.size ≤ w.heap.size + 1) hgw (.int .i64 1) (.int .i64 0) (.int .i64 (x' - 3)) (.int .i64 (y - 3)) (.slice (some ⟨p, 0, none⟩) 64 64)
        obtain ⟨⟨z0, z1, z2, z3, z4⟩, e0, e1, e2, e3, e4⟩ := Z7.five
        obtain ⟨⟨q0, q1, q2, q3, q4⟩, _⟩ := Q7.five
        have hne : ¬ w5.heap.size = w.heap.size + 1 := by omega
        clear Z7 Q7 K7 O7 hs
        go_wp2
        (try simp only [Exit.inBlock, Exit.then])
        refine bodyPost_ret (results_cell_row rfl _ _ (w.heap.size + 1) 34 _ (0, 0) _ rfl FF.out Tryz.underlying34 rfl (by kernel_rfl)) rfl ?_
        exact ⟨⟨1, 0, (x' - 3), y - 3, some ⟨p, 0, none⟩, 64, listF 64 f⟩, by simp [SqT.val, listF_length], FG.out, FK.out⟩
      case true =>
        go_wp2_with fail
        refine (CB.out w6 33 (by decide) (by decide) K7).mono ?_
        rintro e w7 ⟨z, rfl, hz0, hz1, hk⟩
        have K8 := ck_trans K7 hk
        have Z8 := Z7.grew hk.2 (by intro e; cases e; omega)
        have Q8 := Q7.grew hk.2 (by intro e; cases e; omega)
        have O8 := O7.kept hk.2 (.inr (by intro e; have : p = g := Option.some.inj e; omega))
        clear K7 Z7 Q7 O7 hk CB
        obtain ⟨⟨r0, r1, r2, r3, r4⟩, n0, n1, n2, n3, n4⟩ := Q8.five
        have Q9 : Blk (w7.setCell ⟨w5.heap.size, 2, none⟩ (.int .i64 (z - 16))) w5.heap.size (sqC 1 0 (z - 16) (y - 3) (some ⟨p, 0, none⟩) 64 64) 34 := Q8.set 2 (.int .i64 (z - 16)) (by simp)
        have Z9 := Z8.other ⟨w5.heap.size, 2, none⟩ (.int .i64 (z - 16)) (by simp; omega)
        have K9 := ck_set K8 (by omega : w.heap.size ≤ w5.heap.size) hgw 2 (.int .i64 (z - 16))
        have O9 := O8.kept (grown_setCell w7 ⟨w5.heap.size, 2, none⟩ (.int .i64 (z - 16))) (.inr (by intro e; have : p = w5.heap.size := Option.some.inj e; omega))
        clear K8 Z8 Q8 O8
        have FF : Hid (Blk _ _ _ _) := (qFill Z9 rfl (Below.refl 0 (w7.setCell ⟨w5.heap.size, 2, none⟩ (.int .i64 (z - 16)))) (Nat.zero_le _) (.int .i64 1) (.int .i64 0) (.int .i64 (z - 16)) (.int .i64 (y - 3)) (.slice (some ⟨p, 0, none⟩) 64 64)).1
        have FG : Hid (SqGood _ _ _ _) := (⟨(sqOk_m (dx := (z - 16)) (dy := y - 3) (by omega) (by omega) hs : sqOkB 1 0 (z - 16) (y - 3) (listF 64 f) = true), (fun h => by cases h), by rw [listF_length]; exact own_mono (ownFill O9 (by omega) _ _ _ _ _) (by omega)⟩ : SqGood ((((((w7.setCell ⟨w5.heap.size, 2, none⟩ (.int .i64 (z - 16))).setCell ⟨w.heap.size + 1, 0, none⟩ (.int .i64 1)).setCell ⟨w.heap.size + 1, 1, none⟩ (.int .i64 0)).setCell ⟨w.heap.size + 1, 2, none⟩ (.int .i64 (z - 16))).setCell ⟨w.heap.size + 1, 3, none⟩ (.int .i64 (y - 3))).setCell ⟨w.heap.size + 1, 4, none⟩ (.slice (some ⟨p, 0, none⟩) 64 64)) w.heap.size false ⟨1, 0, (z - 16), y - 3, some ⟨p, 0, none⟩, 64, listF 64 f⟩)
        have FK : Hid (CurKept _ _ _ _ _) := ck_fill K9 (by omega : w.heap.size ≤ w.heap.size + 1) hgw (.int .i64 1) (.int .i64 0) (.int .i64 (z - 16)) (.int .i64 (y - 3)) (.slice (some ⟨p, 0, none⟩) 64 64)
        obtain ⟨⟨z0, z1, z2, z3, z4⟩, e0, e1, e2, e3, e4⟩ := Z9.five
        obtain ⟨⟨q0, q1, q2, q3, q4⟩, _⟩ := Q9.five
        have hne : ¬ w5.heap.size = w.heap.size + 1 := by omega
        clear Z9 Q9 K9 O9 hs
        go_wp2
        (try simp only [Exit.inBlock, Exit.then])
        refine bodyPost_ret (results_cell_row rfl _ _ (w.heap.size + 1) 34 _ (0, 0) _ rfl FF.out Tryz.underlying34 rfl (by kernel_rfl)) rfl ?_
        exact ⟨⟨1, 0, (z - 16), y - 3, some ⟨p, 0, none⟩, 64, listF 64 f⟩, by simp [SqT.val, listF_length], FG.out, FK.out⟩
    case false =>
    obtain ⟨_⟩ : True := trivial
    go_wp2_with fail
    clear CO CB
    refine (CG.out w2 K2 Z2).mono ?_
    rintro e w3 ⟨md, rfl, hm, K3, Z3⟩
    clear K2 Z2
    go_wp2_with fail
    refine (CL.out w3 K3 Z3).mono ?_
    rintro e w4 ⟨p, f, rfl, hp, hs, ho, K4, Z4, _⟩
    have FF : Hid _ := FIN.out w4 md p f hm hp hs ho K4 Z4
    obtain ⟨⟨z0, z1, z2, z3, z4⟩, e0, e1, e2, e3, e4⟩ := Z4.five
    clear K3 Z3 K4 Z4 ho hs FIN CG CL
    go_wp2
    (try simp only [Exit.inBlock, Exit.then])
    refine bodyPost_ret (results_cell_row rfl _ _ (w.heap.size + 1) 34 _ (0, 0) _ rfl FF.out.1 Tryz.underlying34 rfl (by kernel_rfl)) rfl ?_
    obtain ⟨t, h1, h2, h3⟩ := FF.out.2
    exact ⟨t, by rw [← h1], h2, h3⟩

set_option maxHeartbeats 3200000 in
theorem l16Squares_any (g : Nat) (a : Option Addr) (len B n : Nat) (k : Bool) (q : Int) (gg x : Bool) (w : World) (hc : CodeRow w B a len) (hB : B ≤ g) (hcur : CurAt w g a len) (hn : n ≤ 4) :
    Calls Tryz.prog 26 #[.pointer (some ⟨g, 0, none⟩), .int .i64 (n : Int), conV k q gg x] w fun e w' => ∃ ts : List SqT, ts.length = n ∧ (∃ v, e = .returned v ∧ w'.ownsRow w.heap.size 34 5 v ts.length (sqsC ts)) ∧ (∀ t ∈ ts, SqGood w' w.heap.size k t) ∧ CurKept w w' g a len := by
  obtain ⟨i0, hi0, hz0, hz1, hz2⟩ := info_parts infoQ
  have hgw := hcur.lt
  have HCd : Hid (∀ w', CurKept w w' g a len → CodeRow w' B a len) := fun w' h => ck_code h hc hB hgw
  have K0 : CurKept w ((w.alloc (.cells #[.bool k, .int .i64 q, .bool gg, .bool x] 26)).alloc (.cells #[] 34)) g a len := ck_alloc (ck_alloc ⟨hcur, ⟨rfl, rfl, rfl, Nat.le_refl _, fun _ _ _ => rfl⟩⟩ _) _
  have P0 : Blk ((w.alloc (.cells #[.bool k, .int .i64 q, .bool gg, .bool x] 26)).alloc (.cells #[] 34)) w.heap.size #[.bool k, .int .i64 q, .bool gg, .bool x] 26 := (Blk.new w _ _).alloc _
  have O0 : ((w.alloc (.cells #[.bool k, .int .i64 q, .bool gg, .bool x] 26)).alloc (.cells #[] 34)).ownsRow (w.heap.size + 1) 34 5 (.slice (some ⟨w.heap.size + 1, 0, none⟩) 0 0) 0 (sqsC []) := by
    have := World.ownsRow_lit (w.alloc (.cells #[.bool k, .int .i64 q, .bool gg, .bool x] 26)) (base := w.heap.size + 1) (e := 34) (size := 5) #[] 0 (by simp) (by unfold maxLen; omega) rfl
    simpa [sqsC] using this
  have HI0 : Hid (((w.alloc (.cells #[.bool k, .int .i64 q, .bool gg, .bool x] 26)).alloc (.cells #[] 34)).ownsRow (w.heap.size + 1) 34 5 (.slice (some ⟨w.heap.size + 1, 0, none⟩) 0 0) 0 (sqsC []) ∧ CurKept w ((w.alloc (.cells #[.bool k, .int .i64 q, .bool gg, .bool x] 26)).alloc (.cells #[] 34)) g a len ∧ Blk ((w.alloc (.cells #[.bool k, .int .i64 q, .bool gg, .bool x] 26)).alloc (.cells #[] 34)) w.heap.size #[.bool k, .int .i64 q, .bool gg, .bool x] 26) := ⟨O0, K0, P0⟩
  clear hc hcur K0 P0 O0
  have n4 : (n : Int) ≤ 4 := by omega
  generalize hs : w.heap.size = s at *
  go_enter Tryz.func26, Tryz.ntmps26
  go_wp2_with fail
  (try rw [hs])
  go_loopw [7, 8] (fun v i wr => ∃ ts : List SqT, ts.length ≤ n ∧ i = .int .i64 (ts.length : Int) ∧ wr.ownsRow (s + 1) 34 5 v ts.length (sqsC ts) ∧ (∀ t ∈ ts, SqGood wr (s + 1) k t) ∧ CurKept w wr g a len ∧ Blk wr s #[.bool k, .int .i64 q, .bool gg, .bool x] 26) (fun _ i _ => n - (intOf i).toNat)
  case atStart => exact ⟨[], Nat.zero_le _, rfl, HI0.out.1, (fun t ht => by cases ht), HI0.out.2.1, HI0.out.2.2⟩
  case round =>
    obtain ⟨ts, hk, rfl, hown, hgd, hK, P⟩ := hrel
    have HG : Hid (∀ t ∈ ts, SqGood wr (s + 1) k t) := hgd
    clear hgd HI0
    have l0 : (0 : Int) ≤ (ts.length : Int) := by omega
    by_cases hlt : ts.length < n
    · have l1 : (ts.length : Int) < (n : Int) := by omega
      have hcr := HCd.out wr hK
      have hsz0 : s < wr.heap.size := P.lt
      have CS : Hid (Calls Tryz.prog 49 #[.pointer (some ⟨g, 0, none⟩), conV k q gg x] wr fun e w' => ∃ t : SqT, e = .returned t.val ∧ SqGood w' wr.heap.size k t ∧ CurKept wr w' g a len) := l15Square_any g a len B k q gg x wr hcr hB hK.1
      obtain ⟨⟨y0, y1, y2, y3⟩, _⟩ := P.four
      clear hcr
      go_wp2_with fail
      refine CS.out.mono ?_
      rintro e w1 ⟨t, rfl, hgt, hk1⟩
      have HT : Hid (SqGood w1 (s + 1) k t) := hgt.mono (by omega)
      have P1 := P.grew hk1.2 (by intro e; cases e; omega)
      have own1 := hown.kept hk1.2 (.inr fun e => by have := (hown.lt g e).1; omega)
      have HG1 : Hid (∀ t ∈ ts, SqGood w1 (s + 1) k t) := fun u hu => (HG.out u hu).cur hk1 (by omega)
      have K1 := ck_trans hK hk1
      have hsz1 : s < w1.heap.size := P1.lt
      clear y0 y1 y2 y3 P hown hk1 hgt HG hK CS
      obtain ⟨kd, md, dx, dy, la, lc, xs⟩ := t
      generalize hxn : xs.length = xn at *
      go_wp2_with (at_builtin; refine wpList_append_lies _ (by rfl) _ _ 24 (by rfl) (s + 1) 34 i0 (.agg #[.int .i64 0, .int .i64 0, .int .i64 0, .int .i64 0, .slice none 0 0]) 5 56 Tryz.underlying24 hi0 hz0 hz1 hz2 rfl (by omega) u7 ts.length _ (by rfl) (own1.alloc _) ⟨w1.heap.size, 0, none⟩ 1 1 [.int .i64 kd, .int .i64 md, .int .i64 dx, .int .i64 dy, .slice la xn lc] (by rfl) (by rfl) (World.news_of_block (cs := #[.int .i64 kd, .int .i64 md, .int .i64 dx, .int .i64 dy, .slice la xn lc]) (t := 34) (fr := (0, 0)) (heap_alloc_new w1 _)) (by simp [Value.oneCell']) (by omega) (by unfold maxLen; omega) (by omega) (by simp; omega) (w1.heap.size + 1) (by simp) ?_; intro gn cp w2 hown2 hgrow hat hlt2)
      subst hxn
      have HG2 : ∀ t ∈ ts ++ [⟨kd, md, dx, dy, la, lc, xs⟩], SqGood w2 (s + 1) k t := fun t ht => by
        have h1 : SqGood w1 (s + 1) k t := by
          rcases List.mem_append.1 ht with h | h
          · exact HG1.out t h
          · simp at h
            subst h
            exact HT.out
        exact SqGood.kept ⟨h1.ok, h1.key, h1.own.alloc _⟩ hgrow (own_apart h1.own own1 (by decide))
      have KA := ck_alloc K1 (.cells #[.int .i64 kd, .int .i64 md, .int .i64 dx, .int .i64 dy, .slice la xs.length lc] 34)
      have P2 := (P1.alloc (.cells #[.int .i64 kd, .int .i64 md, .int .i64 dx, .int .i64 dy, .slice la xs.length lc] 34)).grew hgrow (by intro e; have := (own1.lt s e.symm).1; omega)
      refine ⟨⟨ts ++ [⟨kd, md, dx, dy, la, lc, xs⟩], by simp; omega, by simp, by rw [sqsC_snoc, List.length_append]; exact hown2, HG2, ⟨KA.1.kept hgrow (by intro e; have := (own1.lt g e.symm).1; omega), KA.2.andThen hgrow (fun j hj => .inl (by have := (own1.lt j hj).1; omega))⟩, P2⟩, by simp [intOf]; omega⟩
    · have l1 : ¬ (ts.length : Int) < (n : Int) := by omega
      have hen : ts.length = n := by omega
      go_wp2
      go_ret
      exact ⟨ts, hen, ⟨_, rfl, own_mono hown (by omega)⟩, fun t ht => (HG.out t ht).mono (by omega), hK⟩
end Go.Proofs.YtnlbigjfnjcldaaGreat
