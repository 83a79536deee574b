/-
  impl.scanOver, impl.Scanned, impl.Unscanned.
  impl.Unscanned.
  impl.Scanned and impl.Unscanned of any list.
-/
import Derived.Test.YtlejfkjanllgbaaDoorScanOf
import Derived.Test.YtlejfkjanllgbaaDoorScanList
import Derived.BigRegionIn
namespace Go.Proofs.YtlejfkjanllgbaaDoor
open Go.RowKit
set_option linter.unusedVariables false
set_option maxRecDepth 20000
attribute [local go_sem] Oper.semAt_some

theorem makeFullIn {n : Nat} (w : World) {ops : Array Oper} {rest : List Oper} {o : Oper} {a : Act} {Q : Exit → Act → World → Prop}
    (hg : o.guard = none) (l c : Operand) (hop : o.op = Op.makeSlice 24 l c) (B L : Nat)
    (hl : a.eval l = .int .i64 (L : Int)) (hc : a.eval c = .int .i64 (L : Int)) (b2 : L ≤ 1000000) (b4 : B ≤ w.heap.size)
    (hK : ∀ w', w'.ownsRow B 3 1 (.slice (some ⟨w.heap.size, 0, none⟩) L L) L (madeCells (Value.int .i64 0).cells (L * 1)).toList → w.grownBy w' none → wpListIn Fence.wide n Tryd.prog ops Q rest (a.put o.dst (.slice (some ⟨w.heap.size, 0, none⟩) L L)) w') :
    wpListIn Fence.wide n Tryd.prog ops Q (o :: rest) a w := by
  obtain ⟨i0, hi0, hz0, hz1, hz2⟩ := info_parts infoI
  obtain ⟨w', hrun, r1, r2⟩ := run_make_full (P := Tryd.prog) w B 24 3 i0 (.int .i64 0) 1 Tryd.underlying24 hi0 hz0 hz1 .i64 .i64 L (by rw [hz2]; omega) (by unfold maxLen; omega) b4
  refine wpListIn_plain hg fun K hK' => ?_
  unfold Oper.wpIn
  refine ⟨?_, ?_⟩
  · simp [Oper.about, hop]
  · rw [Oper.semAt_plain Fence.wide _ _ (by rw [hop]; intro c hc'; cases hc')]
    simp [execOp, hop, hl, hc, hrun, Result.andThen]
    exact hK' _ _ (hK w' r1 r2)

theorem row_abides {β : Type} (B g n c : Nat) (f : β → List Value) : Own (fun s W => W.ownsRow B 3 1 (.slice (some ⟨g, 0, none⟩) n c) n (f s)) := by
  intro s X Y row hs hg hr
  refine hs.kept hg ?_
  cases row with
  | none => exact .inr (by simp [Value.ownBlock])
  | some r =>
    refine .inr fun e => ?_
    have e' : g = r := by simpa [Value.ownBlock] using e
    subst e'
    obtain ⟨o, ho, hc⟩ := hr _ rfl
    rcases hs.2 with ⟨e1, _⟩ | ⟨g', cap, cur, e1, _, hgb, _⟩
    · cases e1
    · cases e1
      rw [hgb] at ho
      cases ho
      cases hc

theorem KeepsFrom.drew {B : Nat} {W W' : World} (h : KeepsFrom B W W') : KeepsFrom B W W'.drew := ⟨h.size, h.same⟩

theorem scanOver_any (s : Int) (a : Option Addr) (n cap : Nat) (w : World) (hn : n ≤ maxLen) :
    Calls Tryd.prog 107 #[.int .i64 s, .slice a n cap] w fun e w' => e = .returned (.tuple #[.int .i64 s, .bool ((decide (s = 4) || decide (s = 8)) && decide ((n : Int) = s * s))]) ∧ w' = w := by
  have hn' : (n : Int) ≤ 9223372036854775807 := by unfold maxLen at hn; omega
  by_cases hs : s = 4 ∨ s = 8
  · have CO := scanOf_any s
    have e1 : (decide (s = 4) || decide (s = 8)) = true := by simpa using hs
    rw [e1] at CO ⊢
    have HC : Hid (∀ w', Calls Tryd.prog 123 #[.int .i64 s] w' (fun e w'' => e = .returned (.tuple #[.int .i64 s, .bool true]) ∧ w'' = w')) := CO
    clear CO e1
    rcases hs with rfl | rfl
    · go_enter Tryd.func107, Tryd.ntmps107
      go_wp2_with (go_at_call 123; refine (HC.out _).mono ?_; rintro e w' ⟨rfl, hw⟩; subst w')
      all_goals go_ret2
      all_goals exact ⟨by simp [Bool.beq_eq_decide_eq], rfl⟩
    · go_enter Tryd.func107, Tryd.ntmps107
      go_wp2_with (go_at_call 123; refine (HC.out _).mono ?_; rintro e w' ⟨rfl, hw⟩; subst w')
      all_goals go_ret2
      all_goals exact ⟨by simp [Bool.beq_eq_decide_eq], rfl⟩
  · have CO := scanOf_any s
    have e1 : (decide (s = 4) || decide (s = 8)) = false := by simp; omega
    rw [e1] at CO ⊢
    have HC : Hid (∀ w', Calls Tryd.prog 123 #[.int .i64 s] w' (fun e w'' => e = .returned (.tuple #[.int .i64 s, .bool false]) ∧ w'' = w')) := CO
    clear CO e1 hs
    go_enter Tryd.func107, Tryd.ntmps107
    go_wp2_with (go_at_call 123; refine (HC.out _).mono ?_; rintro e w' ⟨rfl, hw⟩; subst w')
    all_goals go_ret2
    all_goals exact ⟨by simp, rfl⟩

set_option maxHeartbeats 1600000 in
theorem implScanned_yes (sd : Nat) (hs : SideOk sd) (a : Option Addr) (cap : Nat) (xs : List Int) (w : World) (h : Ints w a xs) (hl : xs.length = sd * sd) :
    Calls Tryd.prog 79 #[.int .i64 (sd : Int), .slice a xs.length cap] w fun e w' => (∃ v, e = .returned (.tuple #[v, .bool true]) ∧ w'.ownsRow w.heap.size 3 1 v xs.length ((listF xs.length (fun i => xs.getD (scF sd i) 0)).map (Value.int .i64))) ∧ Below w.heap.size w w' := by
  have q64 : sd * sd ≤ 64 := by rcases hs with rfl | rfl <;> decide
  have CO := scanOver_any (sd : Int) a xs.length cap
  rw [show ((decide ((sd : Int) = 4) || decide ((sd : Int) = 8)) && decide ((xs.length : Int) = (sd : Int) * (sd : Int))) = true by rw [side_yes hs, Bool.true_and, decide_eq_true_eq, hl]; exact Int.natCast_mul sd sd] at CO
  obtain ⟨N, hN⟩ : ∃ N, xs.length = N := ⟨_, rfl⟩
  rw [hN] at CO hl ⊢
  have HC : Hid (∀ w', Calls Tryd.prog 107 #[.int .i64 (sd : Int), .slice a N cap] w' (fun e w'' => e = .returned (.tuple #[.int .i64 (sd : Int), .bool true]) ∧ w'' = w')) := fun w' => CO w' (by unfold maxLen; omega)
  have HN : Hid (xs.length = N) := hN
  have HL : Hid (N = sd * sd) := hl
  have H : Hid (Ints w a xs) := h
  have n64 : (N : Int) ≤ 64 := by omega
  clear CO hN h hl q64
  refine (callsIn_wide (n := 3)).1 ?_
  refine callsIn_of_wp_marks Tryd.func79 rfl trivial ?_ rfl
  simp only [Tryd.ntmps79, List.size_toArray, List.length_cons, List.length_nil, Nat.reduceAdd, Nat.reduceSub, Array.replicate_succ, Array.replicate_zero, List.push_toArray, List.append_toArray, List.nil_append, List.cons_append]
  have bL := Boxed.new w 24 (.slice a N cap)
  have cL := bL.cell
  have hb0 : Below w.heap.size w (w.alloc (.cells #[.slice a N cap] 24)) := (Below.refl _ w).alloc (Nat.le_refl _) _
  gi_wp2_with (first
    | (refine ⟨trivial, ?_⟩; gi_at_call 107; refine (callsIn_wide.2 (HC.out _)).mono ?_; rintro e w' ⟨rfl, hw⟩; subst w')
    | (gi_at_make; refine makeFullIn _ (by rfl) _ _ (by rfl) w.heap.size N (by rfl) (by rfl) (by omega) (by simp) ?_; intro w2 hown0 hgrow0; have hb2 := hb0.grown hgrow0 (by simp) (fun j hj => by cases hj); have bL2 := bL.kept hgrow0 (by simp)))
  rw [scUp_made sd xs] at hown0
  have hown1 := hown0
  rw [World.size_alloc] at hown1
  generalize hV : w2.alloc (.cells #[.slice (some ⟨w.heap.size + 1, 0, none⟩) N N] 24) = V
  have bS : Boxed V w2.heap.size 24 (.slice (some ⟨w.heap.size + 1, 0, none⟩) N N) := by rw [← hV]; exact Boxed.new w2 _ _
  have bA : Boxed V w.heap.size 24 (.slice a N cap) := by rw [← hV]; exact bL2.alloc _
  have hb3 : Below w.heap.size w V := by rw [← hV]; exact hb2.alloc hb2.size _
  have ho3 : V.ownsRow w.heap.size 3 1 (.slice (some ⟨w.heap.size + 1, 0, none⟩) N N) N ((listF N (scUp sd xs 0)).map (Value.int .i64)) := by rw [← hV]; exact hown1.alloc _
  have hsz : V.heap.size = w2.heap.size + 1 := by rw [← hV]; simp
  have hs2 : w.heap.size + 1 < w2.heap.size := by have := (hown1.lt _ rfl).2; omega
  clear hV hown0 hown1 hgrow0 hb2 bL2 bL cL hb0
  generalize w2.heap.size = S at *
  apply scanLoop sd hs rfl rfl
    (fun j W => ((Boxed W w.heap.size 24 (.slice a N cap) ∧ Boxed W S 24 (.slice (some ⟨w.heap.size + 1, 0, none⟩) N N)) ∧ W.ownsRow w.heap.size 3 1 (.slice (some ⟨w.heap.size + 1, 0, none⟩) N N) N ((listF N (scUp sd xs j)).map (Value.int .i64))) ∧ Below w.heap.size w W)
    (fun _ _ => False)
    (OwnFrom.and (Own.from (fun s A B row h hg hr => ⟨⟨boxed_own _ 24 (fun _ : Unit => .slice a N cap) () A B row h.1.1 hg hr, boxed_own _ 24 (fun _ : Unit => .slice (some ⟨w.heap.size + 1, 0, none⟩) N N) () A B row h.1.2 hg hr⟩, row_abides _ _ _ _ (fun j => (listF N (scUp sd xs j)).map (Value.int .i64)) s A B row h.2 hg hr⟩) _) (ownFrom_below (Nat.le_refl _) (by omega)))
    (fun _ _ _ _ h _ _ => h)
    ⟨⟨⟨bA, bS⟩, ho3⟩, hb3⟩
  case hassign =>
    intro l j W K hK
    gi_wp2
    exact hK
  case hbody =>
    rintro l j W hj ⟨⟨⟨hA, hS⟩, ho⟩, hb⟩
    have ca := hA.cell
    have cs := hS.cell
    have hjN : j < N := by rw [HL.out]; exact hj
    have hp : scF sd j < N := by rw [HL.out]; exact scF_lt hs hj
    have hcc := ho.cellAt j (by omega)
    have hfz := ho.frozenAt j
    have hst := ho.stored j (.int .i64 (xs.getD (scF sd j) 0))
    rw [scUp_set] at hst
    have hx := H.out.below hb (Nat.le_refl _)
    rcases hx with h0 | ⟨b, off, rfl, hg, hc⟩
    · have e0 := HN.out
      rw [h0] at e0
      have e1 : N = 0 := e0.symm
      omega
    have d1 := hc (scF sd j) (by rw [HN.out]; exact hp)
    have hc' : W.cell? ⟨w.heap.size + 1, j, none⟩ = some (.int .i64 (scUp sd xs j j)) := by rw [hcc]; exact map_at _ hjN
    have HO : Hid _ := hst.1
    have hbs : Hid (Below w.heap.size w (W.setCell ⟨w.heap.size + 1, j, none⟩ (.int .i64 (xs.getD (scF sd j) 0)))) := hb.grown hst.2 hb.size (fun k hk => by cases hk; omega)
    have hA2 : Hid (Boxed (W.setCell ⟨w.heap.size + 1, j, none⟩ (.int .i64 (xs.getD (scF sd j) 0))) w.heap.size 24 (.slice (some ⟨b, off, none⟩) N cap)) := hA.kept hst.2 (fun e => by have e' := Option.some.inj e; omega)
    have hS2 : Hid (Boxed (W.setCell ⟨w.heap.size + 1, j, none⟩ (.int .i64 (xs.getD (scF sd j) 0))) S 24 (.slice (some ⟨w.heap.size + 1, 0, none⟩) N N)) := hS.kept hst.2 (fun e => by have e' := Option.some.inj e; omega)
    clear hcc hc hst ho hA hS
    obtain ⟨x, hx⟩ : ∃ x, xs.getD (scF sd j) 0 = x := ⟨_, rfl⟩
    rw [hx] at d1 HO hbs hA2 hS2
    clear hx
    obtain ⟨p, hpp⟩ : ∃ p, scF sd j = p := ⟨_, rfl⟩
    rw [hpp] at d1 hp ⊢
    have p0 : (0 : Int) ≤ (p : Int) := by omega
    have p1 : (p : Int) < (N : Int) := by omega
    have j0 : (0 : Int) ≤ (j : Int) := by omega
    have j1 : (j : Int) < (N : Int) := by omega
    clear hpp
    have FIN : Hid (KeepsFrom V.heap.size W (W.setCell ⟨w.heap.size + 1, j, none⟩ (.int .i64 x)).drew ∧ ((Boxed (W.setCell ⟨w.heap.size + 1, j, none⟩ (.int .i64 x)).drew w.heap.size 24 (.slice (some ⟨b, off, none⟩) N cap) ∧ Boxed (W.setCell ⟨w.heap.size + 1, j, none⟩ (.int .i64 x)).drew S 24 (.slice (some ⟨w.heap.size + 1, 0, none⟩) N N)) ∧ (W.setCell ⟨w.heap.size + 1, j, none⟩ (.int .i64 x)).drew.ownsRow w.heap.size 3 1 (.slice (some ⟨w.heap.size + 1, 0, none⟩) N N) N ((listF N (scUp sd xs (j + 1))).map (Value.int .i64))) ∧ Below w.heap.size w (W.setCell ⟨w.heap.size + 1, j, none⟩ (.int .i64 x)).drew) :=
      ⟨KeepsFrom.drew ((KeepsOthers.setCell W ⟨w.heap.size + 1, j, none⟩ (.int .i64 x)).from _), ⟨⟨hA2.out, hS2.out⟩, HO.out⟩, hbs.out.drew⟩
    clear HO hbs hA2 hS2
    gi_wp2
    gi_region
    all_goals exact FIN.out
  case hdone =>
    rintro D W hD ⟨⟨⟨hA, hS⟩, ho⟩, hb⟩ hd
    have ca := hA.cell
    have cs := hS.cell
    rw [← HL.out, scUp_full] at ho
    gi_wp2
    refine ⟨by simp, .inl ⟨_, _, rfl, run_takeDeferred hd, ?_⟩⟩
    have hg := grownBy_putObj' W D (.deferred none)
    have ho2 := row_abides w.heap.size (w.heap.size + 1) N N (fun _ : Unit => (listF N (fun i => xs.getD (scF sd i) 0)).map (Value.int .i64)) () W _ (some D) ho hg (fun r e => by cases e; exact ⟨_, hd, rfl⟩)
    refine ⟨.tuple #[.slice (some ⟨w.heap.size + 1, 0, none⟩) N N, .bool true], ?_, ⟨_, rfl, ho2⟩, hb.trans (belowK_b (w := w) (Nat.le_refl _) _ D _ _ (by omega) hd rfl rfl)⟩
    simp [results, Tryd.f79, go_sem]
  case hstop =>
    rintro D j W hD hj h
    exact h.elim
end Go.Proofs.YtlejfkjanllgbaaDoor

namespace Go.Proofs.YtlejfkjanllgbaaDoor
open Go.RowKit
set_option linter.unusedVariables false
attribute [local go_sem] Oper.semAt_some

set_option maxHeartbeats 1600000 in
theorem implUnscanned_yes (sd : Nat) (hs : SideOk sd) (a : Option Addr) (cap : Nat) (xs : List Int) (w : World) (h : Ints w a xs) (hl : xs.length = sd * sd) :
    Calls Tryd.prog 80 #[.int .i64 (sd : Int), .slice a xs.length cap] w fun e w' => (∃ v, e = .returned (.tuple #[v, .bool true]) ∧ w'.ownsRow w.heap.size 3 1 v xs.length ((listF xs.length (fun i => xs.getD (bkF sd i) 0)).map (Value.int .i64))) ∧ Below w.heap.size w w' := by
  have q64 : sd * sd ≤ 64 := by rcases hs with rfl | rfl <;> decide
  have CO := scanOver_any (sd : Int) a xs.length cap
  rw [show ((decide ((sd : Int) = 4) || decide ((sd : Int) = 8)) && decide ((xs.length : Int) = (sd : Int) * (sd : Int))) = true by rw [side_yes hs, Bool.true_and, decide_eq_true_eq, hl]; exact Int.natCast_mul sd sd] at CO
  obtain ⟨N, hN⟩ : ∃ N, xs.length = N := ⟨_, rfl⟩
  rw [hN] at CO hl ⊢
  have HC : Hid (∀ w', Calls Tryd.prog 107 #[.int .i64 (sd : Int), .slice a N cap] w' (fun e w'' => e = .returned (.tuple #[.int .i64 (sd : Int), .bool true]) ∧ w'' = w')) := fun w' => CO w' (by unfold maxLen; omega)
  have HN : Hid (xs.length = N) := hN
  have HL : Hid (N = sd * sd) := hl
  have H : Hid (Ints w a xs) := h
  have n64 : (N : Int) ≤ 64 := by omega
  clear CO hN h hl q64
  refine (callsIn_wide (n := 3)).1 ?_
  refine callsIn_of_wp_marks Tryd.func80 rfl trivial ?_ rfl
  simp only [Tryd.ntmps80, List.size_toArray, List.length_cons, List.length_nil, Nat.reduceAdd, Nat.reduceSub, Array.replicate_succ, Array.replicate_zero, List.push_toArray, List.append_toArray, List.nil_append, List.cons_append]
  have bL := Boxed.new w 24 (.slice a N cap)
  have cL := bL.cell
  have hb0 : Below w.heap.size w (w.alloc (.cells #[.slice a N cap] 24)) := (Below.refl _ w).alloc (Nat.le_refl _) _
  gi_wp2_with (first
    | (refine ⟨trivial, ?_⟩; gi_at_call 107; refine (callsIn_wide.2 (HC.out _)).mono ?_; rintro e w' ⟨rfl, hw⟩; subst w')
    | (gi_at_make; refine makeFullIn _ (by rfl) _ _ (by rfl) w.heap.size N (by rfl) (by rfl) (by omega) (by simp) ?_; intro w2 hown0 hgrow0; have hb2 := hb0.grown hgrow0 (by simp) (fun j hj => by cases hj); have bL2 := bL.kept hgrow0 (by simp)))
  rw [bkUp_made sd xs] at hown0
  have hown1 := hown0
  rw [World.size_alloc] at hown1
  generalize hV : w2.alloc (.cells #[.slice (some ⟨w.heap.size + 1, 0, none⟩) N N] 24) = V
  have bS : Boxed V w2.heap.size 24 (.slice (some ⟨w.heap.size + 1, 0, none⟩) N N) := by rw [← hV]; exact Boxed.new w2 _ _
  have bA : Boxed V w.heap.size 24 (.slice a N cap) := by rw [← hV]; exact bL2.alloc _
  have hb3 : Below w.heap.size w V := by rw [← hV]; exact hb2.alloc hb2.size _
  have ho3 : V.ownsRow w.heap.size 3 1 (.slice (some ⟨w.heap.size + 1, 0, none⟩) N N) N ((listF N (bkUp sd xs 0)).map (Value.int .i64)) := by rw [← hV]; exact hown1.alloc _
  have hsz : V.heap.size = w2.heap.size + 1 := by rw [← hV]; simp
  have hs2 : w.heap.size + 1 < w2.heap.size := by have := (hown1.lt _ rfl).2; omega
  clear hV hown0 hown1 hgrow0 hb2 bL2 bL cL hb0
  generalize w2.heap.size = S at *
  apply scanLoop sd hs rfl rfl
    (fun j W => ((Boxed W w.heap.size 24 (.slice a N cap) ∧ Boxed W S 24 (.slice (some ⟨w.heap.size + 1, 0, none⟩) N N)) ∧ W.ownsRow w.heap.size 3 1 (.slice (some ⟨w.heap.size + 1, 0, none⟩) N N) N ((listF N (bkUp sd xs j)).map (Value.int .i64))) ∧ Below w.heap.size w W)
    (fun _ _ => False)
    (OwnFrom.and (Own.from (fun s A B row h hg hr => ⟨⟨boxed_own _ 24 (fun _ : Unit => .slice a N cap) () A B row h.1.1 hg hr, boxed_own _ 24 (fun _ : Unit => .slice (some ⟨w.heap.size + 1, 0, none⟩) N N) () A B row h.1.2 hg hr⟩, row_abides _ _ _ _ (fun j => (listF N (bkUp sd xs j)).map (Value.int .i64)) s A B row h.2 hg hr⟩) _) (ownFrom_below (Nat.le_refl _) (by omega)))
    (fun _ _ _ _ h _ _ => h)
    ⟨⟨⟨bA, bS⟩, ho3⟩, hb3⟩
  case hassign =>
    intro l j W K hK
    gi_wp2
    exact hK
  case hbody =>
    rintro l j W hj ⟨⟨⟨hA, hS⟩, ho⟩, hb⟩
    have ca := hA.cell
    have cs := hS.cell
    have hjN : j < N := by rw [HL.out]; exact hj
    have hp : scF sd j < N := by rw [HL.out]; exact scF_lt hs hj
    have hcc := ho.cellAt (scF sd j) (by omega)
    have hfz := ho.frozenAt (scF sd j)
    have hst := ho.stored (scF sd j) (.int .i64 (xs.getD j 0))
    rw [bkUp_set hs xs N j hj] at hst
    have hx := H.out.below hb (Nat.le_refl _)
    rcases hx with h0 | ⟨b, off, rfl, hg, hc⟩
    · have e0 := HN.out
      rw [h0] at e0
      have e1 : N = 0 := e0.symm
      omega
    have d1 := hc j (by rw [HN.out]; exact hjN)
    have hc' : W.cell? ⟨w.heap.size + 1, scF sd j, none⟩ = some (.int .i64 (bkUp sd xs j (scF sd j))) := by rw [hcc]; exact map_at _ hp
    have HO : Hid _ := hst.1
    have hbs : Hid (Below w.heap.size w (W.setCell ⟨w.heap.size + 1, scF sd j, none⟩ (.int .i64 (xs.getD j 0)))) := hb.grown hst.2 hb.size (fun k hk => by cases hk; omega)
    have hA2 : Hid (Boxed (W.setCell ⟨w.heap.size + 1, scF sd j, none⟩ (.int .i64 (xs.getD j 0))) w.heap.size 24 (.slice (some ⟨b, off, none⟩) N cap)) := hA.kept hst.2 (fun e => by have e' := Option.some.inj e; omega)
    have hS2 : Hid (Boxed (W.setCell ⟨w.heap.size + 1, scF sd j, none⟩ (.int .i64 (xs.getD j 0))) S 24 (.slice (some ⟨w.heap.size + 1, 0, none⟩) N N)) := hS.kept hst.2 (fun e => by have e' := Option.some.inj e; omega)
    clear hcc hc hst ho hA hS
    obtain ⟨x, hx⟩ : ∃ x, xs.getD j 0 = x := ⟨_, rfl⟩
    rw [hx] at d1 HO hbs hA2 hS2
    clear hx
    obtain ⟨p, hpp⟩ : ∃ p, scF sd j = p := ⟨_, rfl⟩
    obtain ⟨y, hy⟩ : ∃ y, bkUp sd xs j (scF sd j) = y := ⟨_, rfl⟩
    rw [hy] at hc'
    rw [hpp] at hfz hc' HO hbs hA2 hS2 hp ⊢
    have p0 : (0 : Int) ≤ (p : Int) := by omega
    have p1 : (p : Int) < (N : Int) := by omega
    have j0 : (0 : Int) ≤ (j : Int) := by omega
    have j1 : (j : Int) < (N : Int) := by omega
    clear hpp hy
    have FIN : Hid (KeepsFrom V.heap.size W (W.setCell ⟨w.heap.size + 1, p, none⟩ (.int .i64 x)).drew ∧ ((Boxed (W.setCell ⟨w.heap.size + 1, p, none⟩ (.int .i64 x)).drew w.heap.size 24 (.slice (some ⟨b, off, none⟩) N cap) ∧ Boxed (W.setCell ⟨w.heap.size + 1, p, none⟩ (.int .i64 x)).drew S 24 (.slice (some ⟨w.heap.size + 1, 0, none⟩) N N)) ∧ (W.setCell ⟨w.heap.size + 1, p, none⟩ (.int .i64 x)).drew.ownsRow w.heap.size 3 1 (.slice (some ⟨w.heap.size + 1, 0, none⟩) N N) N ((listF N (bkUp sd xs (j + 1))).map (Value.int .i64))) ∧ Below w.heap.size w (W.setCell ⟨w.heap.size + 1, p, none⟩ (.int .i64 x)).drew) :=
      ⟨KeepsFrom.drew ((KeepsOthers.setCell W ⟨w.heap.size + 1, p, none⟩ (.int .i64 x)).from _), ⟨⟨hA2.out, hS2.out⟩, HO.out⟩, hbs.out.drew⟩
    clear HO hbs hA2 hS2
    gi_wp2
    gi_region
    all_goals exact FIN.out
  case hdone =>
    rintro D W hD ⟨⟨⟨hA, hS⟩, ho⟩, hb⟩ hd
    have ca := hA.cell
    have cs := hS.cell
    rw [HL.out, bkUp_full hs, ← HL.out] at ho
    gi_wp2
    refine ⟨by simp, .inl ⟨_, _, rfl, run_takeDeferred hd, ?_⟩⟩
    have hg := grownBy_putObj' W D (.deferred none)
    have ho2 := row_abides w.heap.size (w.heap.size + 1) N N (fun _ : Unit => (listF N (fun i => xs.getD (bkF sd i) 0)).map (Value.int .i64)) () W _ (some D) ho hg (fun r e => by cases e; exact ⟨_, hd, rfl⟩)
    refine ⟨.tuple #[.slice (some ⟨w.heap.size + 1, 0, none⟩) N N, .bool true], ?_, ⟨_, rfl, ho2⟩, hb.trans (belowK_b (w := w) (Nat.le_refl _) _ D _ _ (by omega) hd rfl rfl)⟩
    simp [results, Tryd.f80, go_sem]
  case hstop =>
    rintro D j W hD hj h
    exact h.elim
end Go.Proofs.YtlejfkjanllgbaaDoor

namespace Go.Proofs.YtlejfkjanllgbaaDoor
open Go.RowKit
set_option linter.unusedVariables false

theorem implScanned (s : Int) (a : Option Addr) (cap : Nat) (xs : List Int) (w : World) (h : Ints w a xs) (hl : xs.length ≤ maxLen) :
    Calls Tryd.prog 79 #[.int .i64 s, .slice a xs.length cap] w fun e w' => (∃ v, e = .returned (.tuple #[v, .bool (scOk s xs)]) ∧ w'.ownsRow w.heap.size 3 1 v (scanL s xs).length ((scanL s xs).map (Value.int .i64))) ∧ Below w.heap.size w w' := by
  cases hb : scOk s xs with
  | true =>
    obtain ⟨h1, h2, h3⟩ := scOk_of hb
    have := implScanned_yes s.toNat h1 a cap xs w h h3
    rw [← h2] at this
    unfold scanL
    rw [if_pos hb, listF_length]
    exact this
  | false =>
    have CO := scanOver_any s a xs.length cap
    rw [show ((decide (s = 4) || decide (s = 8)) && decide ((xs.length : Int) = s * s)) = false from hb] at CO
    have HC : Hid (∀ w', Calls Tryd.prog 107 #[.int .i64 s, .slice a xs.length cap] w' (fun e w'' => e = .returned (.tuple #[.int .i64 s, .bool false]) ∧ w'' = w')) := fun w' => CO w' hl
    have HL : Hid (scanL s xs = []) := by unfold scanL; exact if_neg (by rw [hb]; decide)
    have cL := (Boxed.new w 24 (.slice a xs.length cap)).cell
    have h0 : Below w.heap.size w (w.alloc (.cells #[.slice a xs.length cap] 24)) := (Below.refl _ w).alloc (Nat.le_refl _) _
    have HB : Hid (Below w.heap.size w ((w.alloc (.cells #[.slice a xs.length cap] 24)).alloc (.cells #[] 3))) := h0.alloc h0.size _
    have HO' : Hid (((w.alloc (.cells #[.slice a xs.length cap] 24)).alloc (.cells #[] 3)).ownsRow w.heap.size 3 1 (.slice (some ⟨w.heap.size + 1, 0, none⟩) 0 0) 0 (([] : List Int).map (Value.int .i64))) := by
      have HO := own_none (w.alloc (.cells #[.slice a xs.length cap] 24)) (B := w.heap.size) (by simp)
      rw [World.size_alloc] at HO
      exact HO
    clear CO hb h hl h0
    go_enter Tryd.func79, Tryd.ntmps79
    go_wp2_with (go_at_call 107; refine (HC.out _).mono ?_; rintro e w' ⟨rfl, hw⟩; subst w')
    go_ret2
    rw [HL.out]
    exact ⟨⟨_, rfl, HO'.out⟩, HB.out⟩
theorem implUnscanned (s : Int) (a : Option Addr) (cap : Nat) (xs : List Int) (w : World) (h : Ints w a xs) (hl : xs.length ≤ maxLen) :
    Calls Tryd.prog 80 #[.int .i64 s, .slice a xs.length cap] w fun e w' => (∃ v, e = .returned (.tuple #[v, .bool (scOk s xs)]) ∧ w'.ownsRow w.heap.size 3 1 v (backL s xs).length ((backL s xs).map (Value.int .i64))) ∧ Below w.heap.size w w' := by
  cases hb : scOk s xs with
  | true =>
    obtain ⟨h1, h2, h3⟩ := scOk_of hb
    have := implUnscanned_yes s.toNat h1 a cap xs w h h3
    rw [← h2] at this
    unfold backL
    rw [if_pos hb, listF_length]
    exact this
  | false =>
    have CO := scanOver_any s a xs.length cap
    rw [show ((decide (s = 4) || decide (s = 8)) && decide ((xs.length : Int) = s * s)) = false from hb] at CO
    have HC : Hid (∀ w', Calls Tryd.prog 107 #[.int .i64 s, .slice a xs.length cap] w' (fun e w'' => e = .returned (.tuple #[.int .i64 s, .bool false]) ∧ w'' = w')) := fun w' => CO w' hl
    have HL : Hid (backL s xs = []) := by unfold backL; exact if_neg (by rw [hb]; decide)
    have cL := (Boxed.new w 24 (.slice a xs.length cap)).cell
    have h0 : Below w.heap.size w (w.alloc (.cells #[.slice a xs.length cap] 24)) := (Below.refl _ w).alloc (Nat.le_refl _) _
    have HB : Hid (Below w.heap.size w ((w.alloc (.cells #[.slice a xs.length cap] 24)).alloc (.cells #[] 3))) := h0.alloc h0.size _
    have HO' : Hid (((w.alloc (.cells #[.slice a xs.length cap] 24)).alloc (.cells #[] 3)).ownsRow w.heap.size 3 1 (.slice (some ⟨w.heap.size + 1, 0, none⟩) 0 0) 0 (([] : List Int).map (Value.int .i64))) := by
      have HO := own_none (w.alloc (.cells #[.slice a xs.length cap] 24)) (B := w.heap.size) (by simp)
      rw [World.size_alloc] at HO
      exact HO
    clear CO hb h hl h0
    go_enter Tryd.func80, Tryd.ntmps80
    go_wp2_with (go_at_call 107; refine (HC.out _).mono ?_; rintro e w' ⟨rfl, hw⟩; subst w')
    go_ret2
    rw [HL.out]
    exact ⟨⟨_, rfl, HO'.out⟩, HB.out⟩
end Go.Proofs.YtlejfkjanllgbaaDoor
