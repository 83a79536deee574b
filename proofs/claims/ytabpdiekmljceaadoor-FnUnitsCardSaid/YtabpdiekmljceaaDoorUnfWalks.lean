/-
  The walks of impl.Unframed and spec.Unframed.
-/
import Derived.Test.YtabpdiekmljceaaDoorUnitsSpec
import Derived.Test.YtabpdiekmljceaaDoorUnitFrame
namespace Go.Proofs.YtabpdiekmljceaaDoor
open Go.RowKit
set_option linter.unusedVariables false
attribute [local go_sem ↓] Go.wp_at_zero Go.wp_at_succ

def Byt (l : List Int) : Prop := ∀ x ∈ l, 0 ≤ x ∧ x ≤ 255
theorem cuts_bd (n : Nat) : ∀ L : List Int, L.length ≤ n → Byt L → Byt (cuts L).1 ∧ ∀ p ∈ (cuts L).2, Byt p := by
  induction n with
  | zero =>
    intro L hl _
    obtain rfl : L = [] := List.eq_nil_of_length_eq_zero (by omega)
    rw [cuts_nil]
    exact ⟨(fun x hx => by cases hx), (fun p hp => by cases hp)⟩
  | succ n ih =>
    intro L hl hb
    rcases L with _ | ⟨b, t⟩
    · rw [cuts_nil]
      exact ⟨(fun x hx => by cases hx), (fun p hp => by cases hp)⟩
    · simp only [List.length_cons] at hl
      rw [cuts]
      split
      · have := ih (t.drop 2) (by rw [List.length_drop]; omega) (fun x hx => hb x (List.mem_cons_of_mem _ (List.mem_of_mem_drop hx)))
        refine ⟨(fun x hx => by cases hx), fun p hp => ?_⟩
        rcases List.mem_cons.1 hp with rfl | hp
        · exact this.1
        · exact this.2 p hp
      · have := ih t (by omega) (fun x hx => hb x (List.mem_cons_of_mem _ hx))
        refine ⟨fun x hx => ?_, this.2⟩
        rcases List.mem_cons.1 hx with rfl | hx
        · exact hb _ (List.mem_cons_self ..)
        · exact this.1 x hx
theorem trimR_bd {l : List Int} (h : Byt l) : Byt (trimR l) := fun x hx => by
  unfold trimR at hx
  have := List.mem_reverse.1 hx
  exact h x (List.mem_reverse.1 ((List.dropWhile_sublist _).subset this))
theorem units_bd {L : List Int} (h : Byt L) : ∀ u ∈ unitsOf L, Byt u := by
  unfold unitsOf
  split
  · intro u hu; cases hu
  · suffices hf : ∀ (ps acc : List (List Int)), (∀ p ∈ ps, Byt p) → (∀ u ∈ acc, Byt u) → ∀ u ∈ ps.foldl pushU acc, Byt u from
      hf _ [] (cuts_bd _ L (Nat.le_refl _) h).2 (fun u hu => by cases hu)
    intro ps
    induction ps with
    | nil => intro acc _ h u hu; exact h u hu
    | cons p t ih =>
      intro acc hp ha
      rw [List.foldl_cons]
      refine ih _ (fun q hq => hp q (List.mem_cons_of_mem _ hq)) ?_
      unfold pushU
      split
      · intro u hu
        rcases List.mem_append.1 hu with hu | hu
        · exact ha u hu
        · rw [List.mem_singleton.1 hu]
          exact une_bd _ _ (trimR_bd (hp p (List.mem_cons_self ..)))
      · exact ha
theorem back_nums {us : List (List Int)} (h : ∀ u ∈ us, Byt u) : (us.map strOfNums).map nums = us := by
  rw [List.map_map]
  conv => rhs; rw [← List.map_id us]
  exact List.map_congr_left fun u hu => nums_of u (h u hu)
theorem units_back (s : ByteArray) : ((unitsOf (nums s)).map strOfNums).map nums = unitsOf (nums s) := back_nums (units_bd (nums_bd s))
theorem texts_of_units {w : World} {B : Nat} {v : Value} {us : List (List Int)} (h : w.ownsRow B 9 1 v us.length (txts us)) : ∃ a c, v = .slice a us.length c ∧ Texts w a (us.map strOfNums) := by
  rcases textRow_of_owns h with ⟨a, c, rfl, h0⟩ | ⟨g, c, rfl, hg, hc⟩
  · refine ⟨a, c, ?_, .inl h0⟩
    have := congrArg List.length h0
    rw [List.length_map] at this
    rw [this]; rfl
  · exact ⟨_, c, by rw [List.length_map], .inr ⟨g, 0, rfl, hg, fun i hi => by rw [Nat.zero_add]; exact hc i hi⟩⟩
/-- Whether a stream is what its units make, and the units that are told. -/
def unfB (s : ByteArray) : Bool := match framed (unitsOf (nums s)) with
  | some l => decide (strOfNums l = s)
  | none => false
def unfL (s : ByteArray) : List (List Int) := if unfB s then unitsOf (nums s) else []
def UnfPost (s : ByteArray) (w : World) (e : Ending) (w' : World) : Prop :=
  ∃ v, e = .returned (.tuple #[v, .bool (unfB s)]) ∧ w'.ownsRow w.heap.size 9 1 v (unfL s).length (txts (unfL s)) ∧ Below w.heap.size w w'

set_option maxHeartbeats 800000 in
theorem implUnframed (s : ByteArray) (w : World) (hs : s.size ≤ 1048576) (hm : MaxIn w) (hw : 0 < w.heap.size) :
    Calls Tryd.prog 10 #[.string s] w fun e w' => UnfPost s w e w' := by
  have hun := implUnitsIn s w hs hm hw
  have HUB : Hid ((unitsOf (nums s)).map strOfNums |>.map nums |> (· = unitsOf (nums s))) := units_back s
  have hU4 := unitsOf_length (nums s)
  have HP : Hid (unfL s = if unfB s then unitsOf (nums s) else []) := rfl
  cases hf : framed (unitsOf (nums s)) with
  | none =>
    have HB : Hid (unfB s = false) := by show _ = _; unfold unfB; rw [hf]
    have hfr : Hid (∀ w a c, Texts w a ((unitsOf (nums s)).map strOfNums) → Calls Tryd.prog 9 #[.slice a (unitsOf (nums s)).length c] w fun e w' => e = .returned (.tuple #[.string ⟨#[]⟩, .bool false]) ∧ Below w.heap.size w w') := fun w a c ht => by
      have := implFramed a c _ w ht (by simp; omega)
      unfold framedV at this
      rw [HUB.out, hf, List.length_map] at this
      exact this
    clear hf
    generalize unitsOf (nums s) = U at *
    have hu4' : (U.length : Int) ≤ 400 := by omega
    go_enter Tryd.func10, Tryd.ntmps10
    go_wp2_with (first
      | (go_at_call 12; refine hun.mono ?_; rintro e w1 ⟨v, rfl, hown, hb1⟩; obtain ⟨a1, c1, rfl, ht1⟩ := texts_of_units hown; have HT1 : Hid _ := ht1; clear ht1)
      | (go_at_call 9; refine (hfr.out w1 a1 c1 HT1.out).mono ?_; rintro e w2 ⟨rfl, hb2⟩))
    go_ret2
    have hb3 := hb1.trans (hb2.mono hb1.size)
    refine ⟨_, by rw [HB.out]; rfl, ?_, hb3.alloc hb3.size _⟩
    rw [HP.out, HB.out]
    exact World.ownsRow_made w2 #[] 0 hb3.size (by unfold maxLen; omega) rfl
  | some l =>
    have hfr : Hid (∀ w a c, Texts w a ((unitsOf (nums s)).map strOfNums) → Calls Tryd.prog 9 #[.slice a (unitsOf (nums s)).length c] w fun e w' => e = .returned (.tuple #[.string (strOfNums l), .bool true]) ∧ Below w.heap.size w w') := fun w a c ht => by
      have := implFramed a c _ w ht (by simp; omega)
      unfold framedV at this
      rw [HUB.out, hf, List.length_map] at this
      exact this
    have hB : unfB s = decide (strOfNums l = s) := by unfold unfB; rw [hf]
    clear hf
    by_cases he : strOfNums l = s
    · have HB : Hid (unfB s = true) := by show _ = _; rw [hB]; exact decide_eq_true he
      have hq : ((strOfNums l).toList == s.toList) = true := by rw [he]; simp
      clear hB he
      generalize unitsOf (nums s) = U at *
      have hu4' : (U.length : Int) ≤ 400 := by omega
      generalize strOfNums l = t at *
      go_enter Tryd.func10, Tryd.ntmps10
      go_wp2_with (first
        | (go_at_call 12; refine hun.mono ?_; rintro e w1 ⟨v, rfl, hown, hb1⟩; obtain ⟨a1, c1, rfl, ht1⟩ := texts_of_units hown; have HT1 : Hid _ := ht1; clear ht1)
        | (go_at_call 9; refine (hfr.out w1 a1 c1 HT1.out).mono ?_; rintro e w2 ⟨rfl, hb2⟩))
      go_ret2
      have hb3 := hb1.trans (hb2.mono hb1.size)
      refine ⟨_, by rw [HB.out]; rfl, ?_, hb3⟩
      rw [HP.out, HB.out]
      exact row_belowI hown hb2
    · have HB : Hid (unfB s = false) := by show _ = _; rw [hB]; exact decide_eq_false he
      have hq : ((strOfNums l).toList == s.toList) = false := by rw [beq_eq_false_iff_ne]; exact fun h => he (txt_inj h)
      clear hB he
      generalize unitsOf (nums s) = U at *
      have hu4' : (U.length : Int) ≤ 400 := by omega
      generalize strOfNums l = t at *
      go_enter Tryd.func10, Tryd.ntmps10
      go_wp2_with (first
        | (go_at_call 12; refine hun.mono ?_; rintro e w1 ⟨v, rfl, hown, hb1⟩; obtain ⟨a1, c1, rfl, ht1⟩ := texts_of_units hown; have HT1 : Hid _ := ht1; clear ht1)
        | (go_at_call 9; refine (hfr.out w1 a1 c1 HT1.out).mono ?_; rintro e w2 ⟨rfl, hb2⟩))
      go_ret2
      have hb3 := hb1.trans (hb2.mono hb1.size)
      refine ⟨_, by rw [HB.out]; rfl, ?_, hb3.alloc hb3.size _⟩
      rw [HP.out, HB.out]
      exact World.ownsRow_made w2 #[] 0 hb3.size (by unfold maxLen; omega) rfl

set_option maxHeartbeats 800000 in
theorem specUnframed (s : ByteArray) (w : World) (hs : s.size ≤ 1048576) :
    Calls Tryd.prog 13 #[.string s] w fun e w' => UnfPost s w e w' := by
  have hun := specUnitsIn s w hs
  have HUB : Hid ((unitsOf (nums s)).map strOfNums |>.map nums |> (· = unitsOf (nums s))) := units_back s
  have hU4 := unitsOf_length (nums s)
  have HP : Hid (unfL s = if unfB s then unitsOf (nums s) else []) := rfl
  cases hf : framed (unitsOf (nums s)) with
  | none =>
    have HB : Hid (unfB s = false) := by show _ = _; unfold unfB; rw [hf]
    have hfr : Hid (∀ w a c, Texts w a ((unitsOf (nums s)).map strOfNums) → Calls Tryd.prog 26 #[.slice a (unitsOf (nums s)).length c] w fun e w' => e = .returned (.tuple #[.string ⟨#[]⟩, .bool false]) ∧ Below w.heap.size w w') := fun w a c ht => by
      have := specFramed a c _ w ht (by simp; omega)
      unfold framedV at this
      rw [HUB.out, hf, List.length_map] at this
      exact this
    clear hf
    generalize unitsOf (nums s) = U at *
    have hu4' : (U.length : Int) ≤ 400 := by omega
    go_enter Tryd.func13, Tryd.ntmps13
    go_wp2_with (first
      | (go_at_call 17; refine hun.mono ?_; rintro e w1 ⟨v, rfl, hown, hb1⟩; obtain ⟨a1, c1, rfl, ht1⟩ := texts_of_units hown; have HT1 : Hid _ := ht1; clear ht1)
      | (go_at_call 26; refine (hfr.out w1 a1 c1 HT1.out).mono ?_; rintro e w2 ⟨rfl, hb2⟩))
    go_ret2
    have hb3 := hb1.trans (hb2.mono hb1.size)
    refine ⟨_, by rw [HB.out]; rfl, ?_, hb3.alloc hb3.size _⟩
    rw [HP.out, HB.out]
    exact World.ownsRow_made w2 #[] 0 hb3.size (by unfold maxLen; omega) rfl
  | some l =>
    have hfr : Hid (∀ w a c, Texts w a ((unitsOf (nums s)).map strOfNums) → Calls Tryd.prog 26 #[.slice a (unitsOf (nums s)).length c] w fun e w' => e = .returned (.tuple #[.string (strOfNums l), .bool true]) ∧ Below w.heap.size w w') := fun w a c ht => by
      have := specFramed a c _ w ht (by simp; omega)
      unfold framedV at this
      rw [HUB.out, hf, List.length_map] at this
      exact this
    have hB : unfB s = decide (strOfNums l = s) := by unfold unfB; rw [hf]
    clear hf
    by_cases he : strOfNums l = s
    · have HB : Hid (unfB s = true) := by show _ = _; rw [hB]; exact decide_eq_true he
      have hq : ((strOfNums l).toList == s.toList) = true := by rw [he]; simp
      clear hB he
      generalize unitsOf (nums s) = U at *
      have hu4' : (U.length : Int) ≤ 400 := by omega
      generalize strOfNums l = t at *
      go_enter Tryd.func13, Tryd.ntmps13
      go_wp2_with (first
        | (go_at_call 17; refine hun.mono ?_; rintro e w1 ⟨v, rfl, hown, hb1⟩; obtain ⟨a1, c1, rfl, ht1⟩ := texts_of_units hown; have HT1 : Hid _ := ht1; clear ht1)
        | (go_at_call 26; refine (hfr.out w1 a1 c1 HT1.out).mono ?_; rintro e w2 ⟨rfl, hb2⟩))
      go_ret2
      have hb3 := hb1.trans (hb2.mono hb1.size)
      refine ⟨_, by rw [HB.out]; rfl, ?_, hb3⟩
      rw [HP.out, HB.out]
      exact row_belowI hown hb2
    · have HB : Hid (unfB s = false) := by show _ = _; rw [hB]; exact decide_eq_false he
      have hq : ((strOfNums l).toList == s.toList) = false := by rw [beq_eq_false_iff_ne]; exact fun h => he (txt_inj h)
      clear hB he
      generalize unitsOf (nums s) = U at *
      have hu4' : (U.length : Int) ≤ 400 := by omega
      generalize strOfNums l = t at *
      go_enter Tryd.func13, Tryd.ntmps13
      go_wp2_with (first
        | (go_at_call 17; refine hun.mono ?_; rintro e w1 ⟨v, rfl, hown, hb1⟩; obtain ⟨a1, c1, rfl, ht1⟩ := texts_of_units hown; have HT1 : Hid _ := ht1; clear ht1)
        | (go_at_call 26; refine (hfr.out w1 a1 c1 HT1.out).mono ?_; rintro e w2 ⟨rfl, hb2⟩))
      go_ret2
      have hb3 := hb1.trans (hb2.mono hb1.size)
      refine ⟨_, by rw [HB.out]; rfl, ?_, hb3.alloc hb3.size _⟩
      rw [HP.out, HB.out]
      exact World.ownsRow_made w2 #[] 0 hb3.size (by unfold maxLen; omega) rfl
end Go.Proofs.YtabpdiekmljceaaDoor
