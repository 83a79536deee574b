/-
  The walk of laws.FnEights: sixty-four drawn numbers come back from their turns of eight whole; their weight is sixty-four times as much.
-/
import Derived.Test.YtholbbfibmnicaaCodeKit
import Derived.Test.YtholbbfibmnicaaDrawDiffs
import Derived.Test.YtholbbfibmnicaaEightTops
import Derived.Test.YtholbbfibmnicaaWeightWalk
import Derived.Test.YtholbbfibmnicaaOwnCap
import Derived.Test.YtholbbfibmnicaaSameOne
namespace Go.Proofs.Ytholbbfibmnicaa
open Go.RowKit
set_option linter.unusedVariables false
set_option maxRecDepth 20000

theorem inB_of {M : Int} {l : List Int} (h : ∀ x ∈ l, -M ≤ x ∧ x ≤ M) : inB M l = true := by
  unfold inB
  rw [List.all_eq_true]
  intro x hx
  have := h x hx
  simp [this.1, this.2]
theorem inB_listF {M : Int} {n : Nat} {f : Nat → Int} (h : ∀ i, i < n → -M ≤ f i ∧ f i ≤ M) : inB M (listF n f) = true := inB_iff.2 fun i hi => by
  rw [listF_length] at hi
  rw [listF_get f hi]
  exact h i hi
theorem eightF_congr {f g : Nat → Int} (h : ∀ i, i < 64 → f i = g i) : ∀ i, i < 64 → eightF f i = eightF g i := crossF_congr (crossF_congr h)
/-- What the turns of eight say of sixty-four numbers, as facts of lists. -/
theorem eights_facts {l : List Int} (hl : l.length = 64) (hx : ∀ x ∈ l, -1000 ≤ x ∧ x ≤ 1000) :
    (eightL l).length = 64 ∧ back8L (eightL l) = l ∧ weightL (eightL l) = 64 * weightL l ∧ 0 ≤ weightL l ∧ weightL l ≤ 1000000000000 := by
  have h1 := inB_of hx
  obtain ⟨f, hf⟩ : ∃ f : Nat → Int, (fun i => l.getD i 0) = f := ⟨_, rfl⟩
  have hb : ∀ i, i < 64 → -1000 ≤ f i ∧ f i ≤ 1000 := fun i hi => by
    have := inB_iff.1 h1 i (by omega)
    rw [← hf]
    exact this
  have e1 : eightL l = listF 64 (eightF f) := by
    unfold eightL
    rw [if_pos (by rw [h1]; simpa using hl), hf]
  have hb2 : ∀ i, i < 64 → -64000 ≤ eightF f i ∧ eightF f i ≤ 64000 := fun i hi => by
    have := crossF_bd (crossF_bd hb) i hi
    show -64000 ≤ crossF (crossF f) i ∧ crossF (crossF f) i ≤ 64000
    omega
  have el : l = listF 64 f := by
    have := listF_self l
    rw [hl, hf] at this
    exact this.symm
  have eg : ∀ i, i < 64 → (fun i => (listF 64 (eightF f)).getD i 0) i = eightF f i := fun i hi => listF_get _ hi
  have wl : weightL l = sumTo (fun i => f i * f i) 64 := by
    unfold weightL
    rw [if_pos (by rw [hl, inB_of (M := 80000) (fun x h => by have := hx x h; omega)]; rfl), hl]
    exact sumTo_congr fun i hi => by rw [← hf]
  refine ⟨by rw [e1, listF_length], ?_, ?_, ?_, ?_⟩
  · rw [e1]
    unfold back8L
    rw [if_pos (by rw [listF_length, inB_listF (fun i hi => by have := hb2 i hi; omega)]; rfl)]
    rw [el]
    refine listF_congr fun i hi => ?_
    rw [eightF_congr eg i hi, eight_eight f i hi]
    omega
  · rw [e1, wl, ← eight_weight]
    unfold weightL
    rw [if_pos (by rw [listF_length, inB_listF (fun i hi => by have := hb2 i hi; omega)]; rfl), listF_length]
    exact sumTo_congr fun i hi => by rw [listF_get _ hi]
  · have hw := squares_bd (xs := l) (inB_of (M := 80000) (fun x h => by have := hx x h; omega)) 64 (by omega)
    rw [wl]
    rw [← hf]
    exact hw.1
  · have hw := squares_bd (xs := l) (inB_of (M := 80000) (fun x h => by have := hx x h; omega)) 64 (by omega)
    rw [wl]
    rw [← hf]
    have := hw.2
    show sumTo (fun i => l.getD i 0 * l.getD i 0) 64 ≤ 1000000000000
    omega

theorem news_of_ints {w : World} {g : Nat} {l : List Int} (h : Ints w (some ⟨g, 0, none⟩) l) : ∀ j u, (l.map (Value.int .i64))[j]? = some u → w.cell? ((⟨g, 0, none⟩ : Addr).add j) = some u := fun j u hu => by
  have hj : j < l.length := by
    have := (List.getElem?_eq_some_iff.1 hu).1
    simpa using this
  rcases h with h0 | ⟨b, off, e, _, hc⟩
  · rw [h0] at hj
    simp at hj
  · cases e
    rw [Addr.add_mid, hc j hj, ← hu]
    simp [hj]
set_option maxHeartbeats 3200000 in
theorem fnEights_walk (a : Option Addr) (len cap : Nat) (w : World) (hc : CodeIn w a len cap) :
    Calls Try.prog 4 #[.slice a len cap] w fun e w' => e = .returned (.bool true) ∧ Below w.heap.size w w' := by
  obtain ⟨i0, hi0, hz0, hz1, hz2⟩ := info_parts infoD
  obtain ⟨hlen, _, hrow⟩ := hc
  have HRow : Hid (CodeRow w w.heap.size a len) := hrow
  clear hrow
  go_enter Try.func4, Try.ntmps4
  go_wp2_with fail
  refine (big_any a len cap w hlen).mono ?_
  rintro e w0 ⟨rfl, hw⟩
  subst w0
  go_wp2_with fail
  refine (drawDiffs_any a len cap w.heap.size 64 1000 w HRow.out (Nat.le_refl _) (by omega) (by omega) (by omega)).mono ?_
  rintro e w1 ⟨g, c, l, rfl, hl, hx, hown, hb1⟩
  obtain ⟨fw, fb, fq, fp, fm⟩ := eights_facts hl hx
  have HW : Hid ((eightL l).length = 64 ∧ back8L (eightL l) = l ∧ weightL (eightL l) = 64 * weightL l) := ⟨fw, fb, fq⟩
  obtain ⟨q, hq⟩ : ∃ q, weightL l = q := ⟨_, rfl⟩
  have HQ : Hid (weightL l = q) := hq
  rw [hq] at fp fm
  have IX : Hid (∀ w', Below w1.heap.size w1 w' → Ints w' (some ⟨g, 0, none⟩) l) := fun w' hb => by
    have ho : w1.ownsRow w.heap.size 3 1 (.slice (some ⟨g, 0, none⟩) l.length c) l.length (l.map (Value.int .i64)) := by rw [hl]; exact hown
    exact (owned_at ho).below hb (Nat.le_refl _)
  have hcx := owned_cap hown
  have HL : Hid (l.length = 64) := hl
  have hg1 := (hown.lt g rfl).2
  clear hown hx fw fb fq hq HRow hl
  go_wp2_with (at_builtin; refine wpList_append_lies _ (by rfl) _ _ 24 (by rfl) w1.heap.size 3 i0 (.int .i64 0) 1 8 Try.underlying24 hi0 hz0 hz1 hz2 rfl (by omega) (.slice (some ⟨w1.heap.size, 0, none⟩) 0 0) 0 [] (by rfl) (World.ownsRow_made w1 #[] 0 (Nat.le_refl _) (by unfold maxLen; omega) rfl) ⟨g, 0, none⟩ 64 c (l.map (Value.int .i64)) (by rfl) (by rw [List.length_map, HL.out]) (news_of_ints (IX.out _ ((Below.refl _ _).alloc (Nat.le_refl _) _))) (ints_oneCell .i64 _) (by omega) (by unfold maxLen; omega) (by omega) (by simp) (w1.heap.size + 1) (by simp) ?_; intro gv cv w2 hown2 hgrow _ _)
  have hv2 : w2.ownsRow w1.heap.size 3 1 (.slice (some ⟨gv, 0, none⟩) 64 cv) 64 (l.map (Value.int .i64)) := by simpa using hown2
  have hbc2 : Below w1.heap.size w1 w2 := ((Below.refl _ _).alloc (Nat.le_refl _) _).grown hgrow (by simp) (fun j hj => by cases hj; exact Nat.le_refl _)
  have hb2 := hb1.trans (hbc2.mono hb1.size)
  have IV : Hid (∀ w', Below w2.heap.size w2 w' → Ints w' (some ⟨gv, 0, none⟩) l) := fun w' hb => by
    have ho : w2.ownsRow w1.heap.size 3 1 (.slice (some ⟨gv, 0, none⟩) l.length cv) l.length (l.map (Value.int .i64)) := by rw [HL.out]; exact hv2
    exact (owned_at ho).below hb (Nat.le_refl _)
  clear hown2 hgrow hv2 hb1
  have CE : Hid (∀ w', Ints w' (some ⟨g, 0, none⟩) l → Calls Try.prog 17 #[.slice (some ⟨g, 0, none⟩) 64 c] w' (fun e w'' => (∃ v, e = .returned v ∧ w''.ownsRow w'.heap.size 3 1 v 64 ((eightL l).map (Value.int .i64))) ∧ Below w'.heap.size w' w'')) := fun w' hi => by
    have := implEight (some ⟨g, 0, none⟩) c l w' hi (by rw [HL.out]; unfold maxLen; omega) (by rw [HL.out]; exact hcx)
    rwa [HL.out, HW.out.1] at this
  obtain ⟨E, hE⟩ : ∃ E, eightL l = E := ⟨_, rfl⟩
  rw [hE] at CE HW
  clear hE
  have CB : Hid (∀ (p : Option Addr) (k : Nat) w', Ints w' p E → 64 ≤ k → Calls Try.prog 18 #[.slice p 64 k] w' (fun e w'' => (∃ v, e = .returned v ∧ w''.ownsRow w'.heap.size 3 1 v 64 (l.map (Value.int .i64))) ∧ Below w'.heap.size w' w'')) := fun p k w' hi hk => by
    have := implEightBack p k E w' hi (by rw [HW.out.1]; unfold maxLen; omega) (by rw [HW.out.1]; exact hk)
    rwa [HW.out.1, HW.out.2.1, HL.out] at this
  have CW : Hid (∀ (p : Option Addr) (k : Nat) w', Ints w' p E → Calls Try.prog 20 #[.slice p 64 k] w' (fun e w'' => e = .returned (.int .i64 (64 * q)) ∧ Below w'.heap.size w' w'')) := fun p k w' hi => by
    have := implWeight p k E w' hi (by rw [HW.out.1]; unfold maxLen; omega)
    rwa [HW.out.1, HW.out.2.2, HQ.out] at this
  have CV : Hid (∀ (p : Option Addr) (k : Nat) w', Ints w' p l → Calls Try.prog 20 #[.slice p 64 k] w' (fun e w'' => e = .returned (.int .i64 q) ∧ Below w'.heap.size w' w'')) := fun p k w' hi => by
    have := implWeight p k l w' hi (by rw [HL.out]; unfold maxLen; omega)
    rwa [HL.out, HQ.out] at this
  have CS : Hid (∀ (p p' : Option Addr) (k k' : Nat) w', Ints w' p l → Ints w' p' l → Calls Try.prog 19 #[.slice p 64 k, .slice p' 64 k'] w' (fun e w'' => e = .returned (.bool true) ∧ Below w'.heap.size w' w'')) := fun p p' k k' w' hi hi' => by
    have := sameInts_any p p' k k' l w' hi hi' (by rw [HL.out]; omega)
    rwa [HL.out] at this
  have HEl : Hid (E.length = 64) := HW.out.1
  clear HW HQ
  go_wp2_with fail
  refine (CE.out w2 (IX.out w2 hbc2)).mono ?_
  rintro e w3 ⟨⟨v, rfl, ho⟩, hc3⟩
  obtain ⟨ge, ce, rfl, _, _⟩ := ho.form (by omega)
  have hb3 := hb2.trans (hc3.mono hb2.size)
  have IE : Hid (∀ w', Below w3.heap.size w3 w' → Ints w' (some ⟨ge, 0, none⟩) E) := fun w' hb => by
    have ho' : w3.ownsRow w2.heap.size 3 1 (.slice (some ⟨ge, 0, none⟩) E.length ce) E.length (E.map (Value.int .i64)) := by rw [HEl.out]; exact ho
    exact (owned_at ho').below hb (Nat.le_refl _)
  clear ho CE IX hbc2 hb2 hcx
  go_wp2_with (at_builtin; refine wpList_append_lies _ (by rfl) _ _ 24 (by rfl) w3.heap.size 3 i0 (.int .i64 0) 1 8 Try.underlying24 hi0 hz0 hz1 hz2 rfl (by omega) (.slice (some ⟨w3.heap.size, 0, none⟩) 0 0) 0 [] (by rfl) (World.ownsRow_made w3 #[] 0 (Nat.le_refl _) (by unfold maxLen; omega) rfl) ⟨ge, 0, none⟩ 64 ce (E.map (Value.int .i64)) (by rfl) (by rw [List.length_map, HEl.out]) (news_of_ints (IE.out _ ((Below.refl _ _).alloc (Nat.le_refl _) _))) (ints_oneCell .i64 _) (by omega) (by unfold maxLen; omega) (by omega) (by simp) (w3.heap.size + 1) (by simp) ?_; intro gf cf w4 hown4 hgrow _ _)
  have hv4 : w4.ownsRow w3.heap.size 3 1 (.slice (some ⟨gf, 0, none⟩) 64 cf) 64 (E.map (Value.int .i64)) := by simpa using hown4
  have hbc4 : Below w3.heap.size w3 w4 := ((Below.refl _ _).alloc (Nat.le_refl _) _).grown hgrow (by simp) (fun j hj => by cases hj; exact Nat.le_refl _)
  have hb4 := hb3.trans (hbc4.mono hb3.size)
  have hd4 := hc3.trans (hbc4.mono hc3.size)
  have i4 : Ints w4 (some ⟨gf, 0, none⟩) E := by
    have ho' : w4.ownsRow w3.heap.size 3 1 (.slice (some ⟨gf, 0, none⟩) E.length cf) E.length (E.map (Value.int .i64)) := by rw [HEl.out]; exact hv4
    exact owned_at ho'
  have hc4 := owned_cap hv4
  clear hown4 hgrow hv4 hb3 hc3
  go_wp2_with fail
  refine (CB.out _ _ w4 i4 hc4).mono ?_
  rintro e w5 ⟨⟨v, rfl, ho⟩, hc⟩
  obtain ⟨gy, cy, rfl, _, _⟩ := ho.form (by omega)
  have hb5 := hb4.trans (hc.mono hb4.size)
  have hd5 := hd4.trans (hc.mono hd4.size)
  have he5 := hbc4.trans (hc.mono hbc4.size)
  have i5 : Ints w5 (some ⟨gy, 0, none⟩) l := by
    have ho' : w5.ownsRow w4.heap.size 3 1 (.slice (some ⟨gy, 0, none⟩) l.length cy) l.length (l.map (Value.int .i64)) := by rw [HL.out]; exact ho
    exact owned_at ho'
  clear ho hc hb4 hd4 hbc4 i4 hc4 CB
  go_wp2_with fail
  refine (CS.out _ _ _ _ w5 i5 (IV.out w5 hd5)).mono ?_
  rintro e w6 ⟨rfl, hc⟩
  have hb6 := hb5.trans (hc.mono hb5.size)
  have hd6 := hd5.trans (hc.mono hd5.size)
  have he6 := he5.trans (hc.mono he5.size)
  clear hc hb5 hd5 he5 i5 CS
  go_wp2_with fail
  refine (CW.out _ _ w6 (IE.out w6 he6)).mono ?_
  rintro e w7 ⟨rfl, hc⟩
  have hb7 := hb6.trans (hc.mono hb6.size)
  have hd7 := hd6.trans (hc.mono hd6.size)
  clear hc hb6 hd6 he6
  go_wp2_with fail
  refine (CV.out _ _ w7 (IV.out w7 hd7)).mono ?_
  rintro e w8 ⟨rfl, hc⟩
  have hb8 := hb7.trans (hc.mono hb7.size)
  have hd8 := hd7.trans (hc.mono hd7.size)
  clear hc hb7 hd7
  go_wp2_with fail
  refine (CV.out _ _ w8 (IV.out w8 hd8)).mono ?_
  rintro e w9 ⟨rfl, hc⟩
  have hb9 := hb8.trans (hc.mono hb8.size)
  clear hc hb8 hd8
  go_wp2
  go_ret
  exact ⟨rfl, hb9⟩
end Go.Proofs.Ytholbbfibmnicaa
