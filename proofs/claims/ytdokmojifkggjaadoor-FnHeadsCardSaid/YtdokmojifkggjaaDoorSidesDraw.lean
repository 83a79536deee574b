/-
  The draws of sides with their values: the walk of spec.l05Sides.
-/
import Derived.Test.YtdokmojifkggjaaDoorMDrawWalks
import Derived.Test.YtdokmojifkggjaaDoorMSetMath
import Derived.Test.YtdokmojifkggjaaDoorIntKit
namespace Go.Proofs.YtdokmojifkggjaaDoor
open Go.RowKit
set_option linter.unusedVariables false
set_option maxRecDepth 20000

/-- The sides that are drawn from the i-th on, and the state behind them. -/
def sidesF (zs : List Int) : Nat → Nat → (Nat × Int) → List Int × (Nat × Int)
  | 0, _, S => ([], S)
  | f + 1, i, S => if (i : Int) ≤ (belF zs 3 S).1 then ((1 + (belF zs 2 (belF zs 3 S).2).1) :: (sidesF zs f (i + 1) (belF zs 2 (belF zs 3 S).2).2).1, (sidesF zs f (i + 1) (belF zs 2 (belF zs 3 S).2).2).2) else ([], (belF zs 3 S).2)
theorem sidesF_go (zs : List Int) (j : Nat) (S : Nat × Int) (hj : j ≤ 3) (h : (j : Int) ≤ (belF zs 3 S).1) :
    sidesF zs (4 - j) j S = ((1 + (belF zs 2 (belF zs 3 S).2).1) :: (sidesF zs (4 - (j + 1)) (j + 1) (belF zs 2 (belF zs 3 S).2).2).1, (sidesF zs (4 - (j + 1)) (j + 1) (belF zs 2 (belF zs 3 S).2).2).2) := by
  rw [show 4 - j = (4 - (j + 1)) + 1 by omega, sidesF, if_pos h]
theorem sidesF_stop (zs : List Int) (j : Nat) (S : Nat × Int) (hj : j ≤ 3) (h : ¬ (j : Int) ≤ (belF zs 3 S).1) : sidesF zs (4 - j) j S = ([], (belF zs 3 S).2) := by
  rw [show 4 - j = (4 - (j + 1)) + 1 by omega, sidesF, if_neg h]
theorem sidesF_in (zs : List Int) : ∀ (f i : Nat) (S : Nat × Int), ∀ x ∈ (sidesF zs f i S).1, 1 ≤ x ∧ x ≤ 2
  | 0, _, _, x, h => by simp [sidesF] at h
  | f + 1, i, S, x, h => by
    rw [sidesF] at h
    split at h
    · simp only [List.mem_cons] at h
      rcases h with rfl | h
      · have := belF_bd zs 2 (belF zs 3 S).2 (by omega); omega
      · exact sidesF_in zs f (i + 1) _ x h
    · simp at h
theorem sidesF_len (zs : List Int) : ∀ (f i : Nat) (S : Nat × Int), (sidesF zs f i S).1.length + i ≤ 3 ∨ (sidesF zs f i S).1 = []
  | 0, _, _ => .inr rfl
  | f + 1, i, S => by
    rw [sidesF]
    split
    · rename_i h
      have hb := (belF_bd zs 3 S (by omega)).2
      rcases sidesF_len zs f (i + 1) (belF zs 2 (belF zs 3 S).2).2 with h1 | h1
      · left; simp only [List.length_cons]; omega
      · left; simp only [h1, List.length_cons, List.length_nil]; omega
    · exact .inr rfl
/-- Sides that were drawn are sides. -/
theorem sides_good (zs : List Int) (S : Nat × Int) : (sidesF zs 4 0 S).1.length ≤ 3 ∧ 1 ≤ (sidesF zs 4 0 S).1.length ∧ goodT (sidesF zs 4 0 S).1 (sidesF zs 4 0 S).1.length ∧ 1 ≤ sideI (sidesF zs 4 0 S).1 ∧ sideI (sidesF zs 4 0 S).1 ≤ 6 := by
  have hb := (belF_bd zs 3 S (by omega)).1
  have h1 : 1 ≤ (sidesF zs 4 0 S).1.length := by
    rw [sidesF, if_pos (by simpa using hb)]; simp
  have h3 : (sidesF zs 4 0 S).1.length ≤ 3 := by
    rcases sidesF_len zs 4 0 S with h | h
    · omega
    · rw [h]; simp
  have hin := sidesF_in zs 4 0 S
  generalize (sidesF zs 4 0 S).1 = X at *
  have hg2 : ∀ i, i < X.length → 1 ≤ X.getD i 0 ∧ X.getD i 0 ≤ 2 := fun i hi => by
    rw [List.getD_eq_getElem?_getD, List.getElem?_eq_getElem hi]; exact hin _ (List.getElem_mem _)
  have hg : goodT X X.length := fun i hi => ⟨(hg2 i hi).1, by have := (hg2 i hi).2; omega⟩
  have hs := sideI_good (by omega) hg
  have hbd : ∀ k : Nat, k ≤ X.length → (k : Int) ≤ sumT X k ∧ sumT X k ≤ 2 * (k : Int) := fun k => by
    induction k with
    | zero => intro _; simp [sumT]
    | succ k ih =>
      intro hk
      obtain ⟨a, b⟩ := ih (by omega)
      obtain ⟨c, d⟩ := hg2 k (by omega)
      rw [sumT_succ X k (by omega)]; omega
  have := hbd X.length (Nat.le_refl _)
  exact ⟨h3, h1, hg, by omega, by omega⟩

set_option maxHeartbeats 1600000 in
theorem sides_val (g : Nat) (a : Option Addr) (zs : List Int) (B : Nat) (S : Nat × Int) (w : World) (hc : CodeV w B a zs) (hB : B ≤ g) (hcur : CurV w g a zs.length S) :
    Calls Tryd.prog 55 #[.pointer (some ⟨g, 0, none⟩)] w fun e w' => ∃ a1 c1, e = .returned (.slice a1 (sidesF zs 4 0 S).1.length c1) ∧ Ints w' a1 (sidesF zs 4 0 S).1 ∧ (∀ k, a1 = some k → w.heap.size ≤ k.block) ∧ CurTo w w' g a zs.length (sidesF zs 4 0 S).2 := by
  obtain ⟨i0, hi0, hz0, hz1, hz2⟩ := info_parts infoI
  have hgw := hcur.lt
  have HC : Hid (CodeV w B a zs) := hc
  have hcur0 := hcur.kept (World.grownBy_alloc w (.cells #[] 3) none) (by simp)
  clear hc hcur
  obtain ⟨X, ST, HXS⟩ : ∃ X ST, Hid (sidesF zs 4 0 S = (X, ST)) := ⟨_, _, rfl⟩
  rw [HXS.out]
  go_enter Tryd.func55, Tryd.ntmps55
  go_wp2
  go_loopw [3, 4] (fun v i wr => ∃ (j : Nat) (L : List Int) (S' : Nat × Int), j ≤ 3 ∧ i = .int .i64 j ∧ Hid (L.length = j ∧ L ++ (sidesF zs (4 - j) j S').1 = X ∧ (sidesF zs (4 - j) j S').2 = ST) ∧ wr.ownsRow w.heap.size 3 1 v j (L.map (Value.int .i64)) ∧ CurV wr g a zs.length S' ∧ w.grownBy wr (some g))
    (fun _ i _ => 4 - (intOf i).toNat)
  case atStart => exact ⟨0, [], S, by omega, rfl, ⟨rfl, by rw [HXS.out]; rfl, by rw [HXS.out]⟩, World.ownsRow_made w #[] 0 (Nat.le_refl _) (by unfold maxLen; omega) rfl, hcur0, World.grownBy_alloc w _ _⟩
  case round =>
    obtain ⟨j, L, S', hj, rfl, HL, hown, hcr, hgr⟩ := hrel
    clear hcur0
    have hsz := hgr.size
    have hcw : CodeV wr B a zs := HC.out.below (below_of_grown hgr (by omega) (fun k hk => by cases hk; exact hB))
    obtain ⟨b0, b1⟩ := belF_bd zs 3 S' (by omega)
    have HB3 : Hid (Calls _ _ _ _ _) := below_val g a zs B 3 S' wr hcw hB hcr (by omega) (by omega)
    have HGo : Hid ((j : Int) ≤ (belF zs 3 S').1 → sidesF zs (4 - j) j S' = ((1 + (belF zs 2 (belF zs 3 S').2).1) :: (sidesF zs (4 - (j + 1)) (j + 1) (belF zs 2 (belF zs 3 S').2).2).1, (sidesF zs (4 - (j + 1)) (j + 1) (belF zs 2 (belF zs 3 S').2).2).2)) := sidesF_go zs j S' hj
    have HSt : Hid (¬ (j : Int) ≤ (belF zs 3 S').1 → sidesF zs (4 - j) j S' = ([], (belF zs 3 S').2)) := sidesF_stop zs j S' hj
    generalize (belF zs 3 S').1 = x at *
    generalize (belF zs 3 S').2 = S1 at *
    go_wp2_with fail
    refine HB3.out.mono ?_
    rintro e w1 ⟨rfl, hk1⟩
    have hc1 := hk1.code hcw hB (by omega)
    have hown1 := hown.kept hk1.2 (.inr (fun e => by have := (hown.lt g e).1; omega))
    have hgr1 := hgr.trans hk1.2
    have hsz1 := hgr1.size
    clear hown hcr hgr hcw
    by_cases hle : (j : Int) ≤ x
    · obtain ⟨d0, d1⟩ := belF_bd zs 2 S1 (by omega)
      have HB2 : Hid (Calls _ _ _ _ _) := below_val g a zs B 2 S1 w1 hc1 hB hk1.1 (by omega) (by omega)
      have HE := HGo.out hle
      have HE' : Hid (_ = _) := HE
      clear HE
      generalize (belF zs 2 S1).1 = y at *
      generalize (belF zs 2 S1).2 = S2 at *
      go_wp2_with fail
      refine HB2.out.mono ?_
      rintro e w2 ⟨rfl, hk2⟩
      have hown2 := hown1.kept hk2.2 (.inr (fun e => by have := (hown1.lt g e).1; omega))
      have hgr2 := hgr1.trans hk2.2
      have hsz2 := hgr2.size
      have hcur2 := hk2.1
      clear hown1 hgr1 hc1 hk1 hk2
      go_wp2_with (at_builtin; refine wpList_append_lies _ (by rfl) _ _ 24 (by rfl) w.heap.size 3 i0 (.int .i64 0) 1 8 Tryd.underlying24 hi0 hz0 hz1 hz2 rfl (by omega) u3 j _ (by rfl) (hown2.alloc _) ⟨w2.heap.size, 0, none⟩ 1 1 [.int .i64 (1 + y)] (by rfl) (by rfl) (World.news_of_block (cs := #[.int .i64 (1 + y)]) (t := 3) (fr := (0, 0)) (heap_alloc_new w2 _)) (by simp [Value.oneCell']) (by omega) (by unfold maxLen; omega) (by omega) (by simp; omega) (w2.heap.size + 1) (by simp) ?_; intro gg cp w4 hown3 hgrow hat hlt2)
      have hcur4 : CurV w4 g a zs.length S2 := (hcur2.kept (World.grownBy_alloc w2 _ none) (by simp)).kept hgrow (fun e => by have := (hown2.lt g e.symm).1; omega)
      have hgr4 : w.grownBy w4 (some g) := (hgr2.trans (World.grownBy_alloc w2 _ (some g))).andThen hgrow (fun k hk => .inl (hown2.lt k hk).1)
      have hown4 : w4.ownsRow w.heap.size 3 1 (.slice (some ⟨gg, 0, none⟩) (j + 1) cp) (j + 1) ((L ++ [1 + y]).map (Value.int .i64)) := by simpa using hown3
      have HL2 : Hid ((L ++ [1 + y]).length = j + 1 ∧ (L ++ [1 + y]) ++ (sidesF zs (4 - (j + 1)) (j + 1) S2).1 = X ∧ (sidesF zs (4 - (j + 1)) (j + 1) S2).2 = ST) := by
        obtain ⟨q1, q2, q3⟩ := HL.out
        rw [HE'.out] at q2 q3
        exact ⟨by simp [q1], by rw [← q2]; simp, q3⟩
      clear hown3 hgrow hat hlt2 hown2 hcur2 hgr2
      go_roundw
      case rel => exact ⟨j + 1, L ++ [1 + y], S2, by omega, by go_num, HL2, hown4, hcur4, hgr4⟩
      case measure => simp [intOf]; omega
    · have HE' : Hid (L = X ∧ S1 = ST) := by
        obtain ⟨q1, q2, q3⟩ := HL.out
        rw [HSt.out (by omega)] at q2 q3
        exact ⟨by simpa using q2, q3⟩
      have HO : Hid (∃ a1 c1, u3 = .slice a1 X.length c1 ∧ Ints w1 a1 X ∧ ∀ p, a1 = some p → w.heap.size ≤ p.block) := by
        rw [← HE'.out.1]; exact ints_of_owns hown1
      have hgr1' := hgr1
      obtain ⟨a1, c1, hu, hi, hkb⟩ := HO.out
      subst hu
      have HI : Hid (Ints w1 a1 X ∧ ∀ p, a1 = some p → w.heap.size ≤ p.block) := ⟨hi, hkb⟩
      have hle' : x < (j : Int) := by omega
      clear HO hown1 hc1 hi hkb
      go_wp2
      go_ret
      exact ⟨a1, c1, rfl, HI.out.1, HI.out.2, by rw [← HE'.out.2]; exact hk1.1, hgr1'⟩
end Go.Proofs.YtdokmojifkggjaaDoor
