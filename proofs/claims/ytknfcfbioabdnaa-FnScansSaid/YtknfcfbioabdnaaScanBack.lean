/-
  impl.Unscanned.
-/
import Derived.Test.YtknfcfbioabdnaaScanTops
namespace Go.Proofs.Ytknfcfbioabdnaa
open Go.RowKit
set_option linter.unusedVariables false
set_option maxRecDepth 20000
attribute [local go_sem] Oper.semAt_some

set_option maxHeartbeats 1600000 in
theorem implUnscanned_yes (sd : Nat) (hs : SideOk sd) (a : Option Addr) (cap : Nat) (xs : List Int) (w : World) (h : Ints w a xs) (hl : xs.length = sd * sd) :
    Calls Try.prog 15 #[.int .i64 (sd : Int), .slice a xs.length cap] w fun e w' => (∃ v, e = .returned (.tuple #[v, .bool true]) ∧ w'.ownsRow w.heap.size 3 1 v xs.length ((listF xs.length (fun i => xs.getD (bkF sd i) 0)).map (Value.int .i64))) ∧ Below w.heap.size w w' := by
  have q64 : sd * sd ≤ 64 := by rcases hs with rfl | rfl <;> decide
  have CO := scanOver_any (sd : Int) a xs.length cap
  rw [show ((decide ((sd : Int) = 4) || decide ((sd : Int) = 8)) && decide ((xs.length : Int) = (sd : Int) * (sd : Int))) = true by rw [side_yes hs, Bool.true_and, decide_eq_true_eq, hl]; exact Int.natCast_mul sd sd] at CO
  obtain ⟨N, hN⟩ : ∃ N, xs.length = N := ⟨_, rfl⟩
  rw [hN] at CO hl ⊢
  have HC : Hid (∀ w', Calls Try.prog 36 #[.int .i64 (sd : Int), .slice a N cap] w' (fun e w'' => e = .returned (.tuple #[.int .i64 (sd : Int), .bool true]) ∧ w'' = w')) := fun w' => CO w' (by unfold maxLen; omega)
  have HN : Hid (xs.length = N) := hN
  have HL : Hid (N = sd * sd) := hl
  have H : Hid (Ints w a xs) := h
  have n64 : (N : Int) ≤ 64 := by omega
  clear CO hN h hl q64
  refine (callsIn_wide (n := 3)).1 ?_
  refine callsIn_of_wp_marks Try.func15 rfl trivial ?_ rfl
  simp only [Try.ntmps15, List.size_toArray, List.length_cons, List.length_nil, Nat.reduceAdd, Nat.reduceSub, Array.replicate_succ, Array.replicate_zero, List.push_toArray, List.append_toArray, List.nil_append, List.cons_append]
  have bL := Boxed.new w 24 (.slice a N cap)
  have cL := bL.cell
  have hb0 : Below w.heap.size w (w.alloc (.cells #[.slice a N cap] 24)) := (Below.refl _ w).alloc (Nat.le_refl _) _
  gi_wp2_with (first
    | (refine ⟨trivial, ?_⟩; gi_at_call 36; refine (callsIn_wide.2 (HC.out _)).mono ?_; rintro e w' ⟨rfl, hw⟩; subst w')
    | (gi_at_make; refine makeFullIn _ (by rfl) _ _ (by rfl) w.heap.size N (by rfl) (by rfl) (by omega) (by simp) ?_; intro w2 hown0 hgrow0; have hb2 := hb0.grown hgrow0 (by simp) (fun j hj => by cases hj); have bL2 := bL.kept hgrow0 (by simp)))
  rw [bkUp_made sd xs] at hown0
  have hown1 := hown0
  rw [World.size_alloc] at hown1
  generalize hV : w2.alloc (.cells #[.slice (some ⟨w.heap.size + 1, 0, none⟩) N N] 24) = V
  have bS : Boxed V w2.heap.size 24 (.slice (some ⟨w.heap.size + 1, 0, none⟩) N N) := by rw [← hV]; exact Boxed.new w2 _ _
  have bA : Boxed V w.heap.size 24 (.slice a N cap) := by rw [← hV]; exact bL2.alloc _
  have hb3 : Below w.heap.size w V := by rw [← hV]; exact hb2.alloc hb2.size _
  have ho3 : V.ownsRow w.heap.size 3 1 (.slice (some ⟨w.heap.size + 1, 0, none⟩) N N) N ((listF N (bkUp sd xs 0)).map (Value.int .i64)) := by rw [← hV]; exact hown1.alloc _
  have hsz : V.heap.size = w2.heap.size + 1 := by rw [← hV]; simp
  have hs2 : w.heap.size + 1 < w2.heap.size := by have := (hown1.lt _ rfl).2; omega
  clear hV hown0 hown1 hgrow0 hb2 bL2 bL cL hb0
  generalize w2.heap.size = S at *
  apply scanLoop sd hs rfl rfl
    (fun j W => ((Boxed W w.heap.size 24 (.slice a N cap) ∧ Boxed W S 24 (.slice (some ⟨w.heap.size + 1, 0, none⟩) N N)) ∧ W.ownsRow w.heap.size 3 1 (.slice (some ⟨w.heap.size + 1, 0, none⟩) N N) N ((listF N (bkUp sd xs j)).map (Value.int .i64))) ∧ Below w.heap.size w W)
    (fun _ _ => False)
    (OwnFrom.and (Own.from (fun s A B row h hg hr => ⟨⟨boxed_own _ 24 (fun _ : Unit => .slice a N cap) () A B row h.1.1 hg hr, boxed_own _ 24 (fun _ : Unit => .slice (some ⟨w.heap.size + 1, 0, none⟩) N N) () A B row h.1.2 hg hr⟩, row_abides _ _ _ _ (fun j => (listF N (bkUp sd xs j)).map (Value.int .i64)) s A B row h.2 hg hr⟩) _) (ownFrom_below (Nat.le_refl _) (by omega)))
    (fun _ _ _ _ h _ _ => h)
    ⟨⟨⟨bA, bS⟩, ho3⟩, hb3⟩
  case hassign =>
    intro l j W K hK
    gi_wp2
    exact hK
  case hbody =>
    rintro l j W hj ⟨⟨⟨hA, hS⟩, ho⟩, hb⟩
    have ca := hA.cell
    have cs := hS.cell
    have hjN : j < N := by rw [HL.out]; exact hj
    have hp : scF sd j < N := by rw [HL.out]; exact scF_lt hs hj
    have hcc := ho.cellAt (scF sd j) (by omega)
    have hfz := ho.frozenAt (scF sd j)
    have hst := ho.stored (scF sd j) (.int .i64 (xs.getD j 0))
    rw [bkUp_set hs xs N j hj] at hst
    have hx := H.out.below hb (Nat.le_refl _)
    rcases hx with h0 | ⟨b, off, rfl, hg, hc⟩
    · have e0 := HN.out
      rw [h0] at e0
      have e1 : N = 0 := e0.symm
      omega
    have d1 := hc j (by rw [HN.out]; exact hjN)
    have hc' : W.cell? ⟨w.heap.size + 1, scF sd j, none⟩ = some (.int .i64 (bkUp sd xs j (scF sd j))) := by rw [hcc]; exact map_at _ hp
    have HO : Hid _ := hst.1
    have hbs : Hid (Below w.heap.size w (W.setCell ⟨w.heap.size + 1, scF sd j, none⟩ (.int .i64 (xs.getD j 0)))) := hb.grown hst.2 hb.size (fun k hk => by cases hk; omega)
    have hA2 : Hid (Boxed (W.setCell ⟨w.heap.size + 1, scF sd j, none⟩ (.int .i64 (xs.getD j 0))) w.heap.size 24 (.slice (some ⟨b, off, none⟩) N cap)) := hA.kept hst.2 (fun e => by have e' := Option.some.inj e; omega)
    have hS2 : Hid (Boxed (W.setCell ⟨w.heap.size + 1, scF sd j, none⟩ (.int .i64 (xs.getD j 0))) S 24 (.slice (some ⟨w.heap.size + 1, 0, none⟩) N N)) := hS.kept hst.2 (fun e => by have e' := Option.some.inj e; omega)
    clear hcc hc hst ho hA hS
    obtain ⟨x, hx⟩ : ∃ x, xs.getD j 0 = x := ⟨_, rfl⟩
    rw [hx] at d1 HO hbs hA2 hS2
    clear hx
    obtain ⟨p, hpp⟩ : ∃ p, scF sd j = p := ⟨_, rfl⟩
    obtain ⟨y, hy⟩ : ∃ y, bkUp sd xs j (scF sd j) = y := ⟨_, rfl⟩
    rw [hy] at hc'
    rw [hpp] at hfz hc' HO hbs hA2 hS2 hp ⊢
    have p0 : (0 : Int) ≤ (p : Int) := by omega
    have p1 : (p : Int) < (N : Int) := by omega
    have j0 : (0 : Int) ≤ (j : Int) := by omega
    have j1 : (j : Int) < (N : Int) := by omega
    clear hpp hy
    have FIN : Hid (KeepsFrom V.heap.size W (W.setCell ⟨w.heap.size + 1, p, none⟩ (.int .i64 x)).drew ∧ ((Boxed (W.setCell ⟨w.heap.size + 1, p, none⟩ (.int .i64 x)).drew w.heap.size 24 (.slice (some ⟨b, off, none⟩) N cap) ∧ Boxed (W.setCell ⟨w.heap.size + 1, p, none⟩ (.int .i64 x)).drew S 24 (.slice (some ⟨w.heap.size + 1, 0, none⟩) N N)) ∧ (W.setCell ⟨w.heap.size + 1, p, none⟩ (.int .i64 x)).drew.ownsRow w.heap.size 3 1 (.slice (some ⟨w.heap.size + 1, 0, none⟩) N N) N ((listF N (bkUp sd xs (j + 1))).map (Value.int .i64))) ∧ Below w.heap.size w (W.setCell ⟨w.heap.size + 1, p, none⟩ (.int .i64 x)).drew) :=
      ⟨KeepsFrom.drew ((KeepsOthers.setCell W ⟨w.heap.size + 1, p, none⟩ (.int .i64 x)).from _), ⟨⟨hA2.out, hS2.out⟩, HO.out⟩, hbs.out.drew⟩
    clear HO hbs hA2 hS2
    gi_wp2
    gi_region
    all_goals exact FIN.out
  case hdone =>
    rintro D W hD ⟨⟨⟨hA, hS⟩, ho⟩, hb⟩ hd
    have ca := hA.cell
    have cs := hS.cell
    rw [HL.out, bkUp_full hs, ← HL.out] at ho
    gi_wp2
    refine ⟨by simp, .inl ⟨_, _, rfl, run_takeDeferred hd, ?_⟩⟩
    have hg := grownBy_putObj' W D (.deferred none)
    have ho2 := row_abides w.heap.size (w.heap.size + 1) N N (fun _ : Unit => (listF N (fun i => xs.getD (bkF sd i) 0)).map (Value.int .i64)) () W _ (some D) ho hg (fun r e => by cases e; exact ⟨_, hd, rfl⟩)
    refine ⟨.tuple #[.slice (some ⟨w.heap.size + 1, 0, none⟩) N N, .bool true], ?_, ⟨_, rfl, ho2⟩, hb.trans (belowK_b (w := w) (Nat.le_refl _) _ D _ _ (by omega) hd rfl rfl)⟩
    simp [results, Try.f15, go_sem]
  case hstop =>
    rintro D j W hD hj h
    exact h.elim
end Go.Proofs.Ytknfcfbioabdnaa
