/-
  The walk of impl.UnitsIn.
-/
import Derived.Test.YtabpdiekmljceaaDoorShelf
import Derived.Test.YtabpdiekmljceaaDoorCutMath
import Derived.Test.YtabpdiekmljceaaDoorUnitOff
import Derived.Test.YtabpdiekmljceaaDoorUnitTexts
namespace Go.Proofs.YtabpdiekmljceaaDoor
open Go.RowKit
set_option linter.unusedVariables false
attribute [local go_sem ↓] Go.wp_at_zero Go.wp_at_succ

/-- The library's variable that a search reads holds some number. -/
def MaxIn (w : World) : Prop := ∃ m : Int, w.cell? ⟨0, 0, none⟩ = some (.int .i64 m)
def txts (us : List (List Int)) : List Value := (us.map strOfNums).map Value.string
/-- What UnitsIn leaves: a row of its own with the units. -/
def UnitsPost (us : List (List Int)) (w : World) (e : Ending) (w' : World) : Prop :=
  ∃ v, e = .returned v ∧ w'.ownsRow w.heap.size 9 1 v us.length (txts us) ∧ Below w.heap.size w w'
theorem row_belowI {W W' : World} {B e size n : Nat} {v : Value} {xs : List Value} (h : W.ownsRow B e size v n xs) (hb : Below W.heap.size W W') : W'.ownsRow B e size v n xs := by
  refine ⟨h.1, ?_⟩
  rcases h.2 with h2 | ⟨g, cap, cur, hv, hB, hg, r⟩
  · exact .inl h2
  · exact .inr ⟨g, cap, cur, hv, hB, (hb.block g (lt_of_block hg)).trans hg, r⟩
theorem txts_snoc (us : List (List Int)) (u : List Int) : txts (us ++ [u]) = txts us ++ [.string (strOfNums u)] := by simp [txts]
theorem pieces {w : World} {s : ByteArray} {C : Nat} (hC : C = Lib.countB s sepB) (j : Nat) (hj : j ≤ C) :
    (w.alloc (.cells ((Lib.splitB sepB 0 (Lib.countB s sepB) s).map Value.string).toArray 9)).cell? ⟨w.heap.size, j, none⟩ = some (.string ((Lib.splitB sepB 0 (Lib.countB s sepB) s).getD j ByteArray.empty)) := by
  have hl := Lib.splitB_all sepB (by decide) 0 _ s rfl
  rw [cell_of_row _ w.heap.size j _ 9 (0, 0) (heap_alloc_new w _)]
  have hj' : j < (Lib.splitB sepB 0 (Lib.countB s sepB) s).length := by omega
  simp [List.getElem?_eq_getElem hj']
theorem piece_nums {s : ByteArray} {C : Nat} (hC : C = Lib.countB s sepB) (j : Nat) (hj : j < C) :
    (cuts (nums s)).2.drop j = nums ((Lib.splitB sepB 0 (Lib.countB s sepB) s).getD (j + 1) ByteArray.empty) :: (cuts (nums s)).2.drop (j + 1) := by
  have hl := Lib.splitB_all sepB (by decide) 0 _ s rfl
  have hc := cuts_split _ s rfl
  have hj' : j + 1 < (Lib.splitB sepB 0 (Lib.countB s sepB) s).length := by omega
  have hlen : (cuts (nums s)).2.length = C := by
    have := congrArg List.length hc
    simp only [List.length_map, List.length_cons] at this
    omega
  rw [List.drop_eq_getElem_cons (by omega)]
  congr 1
  have e : ((cuts (nums s)).1 :: (cuts (nums s)).2)[j + 1]? = some (cuts (nums s)).2[j] := by
    rw [List.getElem?_cons_succ, List.getElem?_eq_getElem (by omega)]
  rw [← hc, List.getElem?_map, List.getElem?_eq_getElem hj'] at e
  rw [List.getD, List.getElem?_eq_getElem hj']
  exact (Option.some.inj e).symm
theorem cuts_count (s : ByteArray) : (cuts (nums s)).2.length = Lib.countB s sepB := by
  have hl := Lib.splitB_all sepB (by decide) 0 _ s rfl
  have := congrArg List.length (cuts_split _ s rfl)
  simp only [List.length_map, List.length_cons] at this
  omega
theorem piece_size {s : ByteArray} (j : Nat) (hs : s.size ≤ 60000) : ((Lib.splitB sepB 0 (Lib.countB s sepB) s).getD j ByteArray.empty).size ≤ 60000 := by
  suffices h : ∀ (k : Nat) (t : ByteArray), t.size ≤ 60000 → ∀ x ∈ Lib.splitB sepB 0 k t, x.size ≤ 60000 by
    rw [List.getD]
    cases h1 : (Lib.splitB sepB 0 (Lib.countB s sepB) s)[j]? with
    | none => exact Nat.zero_le _
    | some x => exact h _ s hs x (List.mem_of_getElem? h1)
  intro k
  induction k with
  | zero => intro t ht x hx; rw [Lib.splitB_zero] at hx; rw [List.mem_singleton.1 hx]; exact ht
  | succ k ih =>
    intro t ht x hx
    rcases Lib.indexB_cases t sepB with hix | ⟨i, hix, hroom⟩
    · rw [Lib.splitB_miss sepB 0 _ t hix] at hx
      rw [List.mem_singleton.1 hx]; exact ht
    · rw [Lib.splitB_hit sepB 0 k t i hix] at hx
      rcases List.mem_cons.1 hx with rfl | hx
      · rw [ByteArray.size_extract]; omega
      · exact ih _ (by rw [ByteArray.size_extract]; omega) x hx

set_option maxHeartbeats 1600000 in
theorem implUnitsIn (s : ByteArray) (w : World) (hs : s.size ≤ 1048576) (hm : MaxIn w) (hw : 0 < w.heap.size) :
    Calls Tryd.prog 12 #[.string s] w fun e w' => UnitsPost (unitsOf (nums s)) w e w' := by
  obtain ⟨i0, hi0, hz0, hz1, hz2⟩ := info_parts infoS
  by_cases hbig : 60000 < s.size
  · have HU : Hid (unitsOf (nums s) = []) := by
      show _ = _
      unfold unitsOf; rw [if_pos (by rw [nums_length]; exact hbig)]
    go_enter Tryd.func12, Tryd.ntmps12
    go_wp2
    go_ret
    rw [HU.out]
    exact ⟨_, rfl, World.ownsRow_made w #[] 0 (Nat.le_refl _) (by unfold maxLen; omega) rfl, (Below.refl _ _).alloc (Nat.le_refl _) _⟩
  obtain ⟨m, hm'⟩ := hm
  have hs6 : (s.size : Int) ≤ 60000 := by omega
  have hmA : (w.alloc (.cells #[] 9)).cell? ⟨0, 0, none⟩ = some (.int .i64 m) := ((Below.refl w.heap.size w).alloc (Nat.le_refl _) _ |>.cell (p := ⟨0, 0, none⟩) hw).trans hm'
  have HM : Hid ((w.alloc (.cells #[] 9)).cell? ⟨0, 0, none⟩ = some (.int .i64 m)) := hmA
  have hcb := Lib.countB_le sepB (by decide) s.size s (Nat.le_refl _)
  obtain ⟨C, hC⟩ : ∃ C, C = Lib.countB s sepB := ⟨_, rfl⟩
  have HC : Hid (C = Lib.countB s sepB) := hC
  have hsplit : Calls Tryd.prog 23 #[.string s, .string ⟨#[0, 0, 1]⟩] (w.alloc (.cells #[] 9)) fun e w' =>
      e = .returned (.slice (some ⟨w.heap.size + 1, 0, none⟩) (C + 1) (C + 1)) ∧ (∀ j, j ≤ C → w'.cell? ⟨w.heap.size + 1, j, none⟩ = some (.string ((Lib.splitB sepB 0 (Lib.countB s sepB) s).getD j ByteArray.empty))) ∧ (w.alloc (.cells #[] 9)).grownBy w' none ∧ w'.heap.size = w.heap.size + 2 := by
    refine (Tryd.strings_Split s sepB m _ (by omega) HM.out (by decide)).mono ?_
    rintro e w' ⟨rfl, rfl⟩
    refine ⟨by rw [hC]; simp, fun j hj => ?_, World.grownBy_alloc _ _ none, by simp⟩
    have := pieces (w := w.alloc (.cells #[] 9)) hC j hj
    simpa using this
  have hCb : (C : Int) ≤ 60000 := by omega
  clear hm' hmA hC hcb
  have HU : Hid (unitsOf (nums s) = (cuts (nums s)).2.foldl pushU []) := by
    show _ = _
    unfold unitsOf; rw [if_neg (by rw [nums_length]; omega)]
  by_cases hC0 : C = 0
  · subst hC0
    have HU0 : Hid (unitsOf (nums s) = []) := by
      have h0 := cuts_count s
      rw [← HC.out] at h0
      show _ = _
      rw [HU.out, List.eq_nil_of_length_eq_zero h0]
      rfl
    go_enter Tryd.func12, Tryd.ntmps12
    go_wp2_with (go_at_call 23; refine hsplit.mono ?_; rintro e w1 ⟨rfl, hcell, hg1, hw1⟩)
    refine wp_loop_rounds 1 ?_
    rw [rounds_succ]
    go_wp2
    go_ret
    rw [HU0.out]
    refine ⟨_, rfl, (World.ownsRow_made w #[] 0 (Nat.le_refl _) (by unfold maxLen; omega) rfl).kept hg1 (.inr (by simp [Value.ownBlock])), ((Below.refl _ _).alloc (Nat.le_refl _) _).grown hg1 (by simp) (fun j hj => by cases hj)⟩
  have hC1 : (0 : Int) < (C : Int) := by omega
  go_enter Tryd.func12, Tryd.ntmps12
  go_wp2_with (go_at_call 23; refine hsplit.mono ?_; rintro e w1 ⟨rfl, hcell, hg1, hw1⟩)
  have hownA : w1.ownsRow w.heap.size 9 1 (.slice (some ⟨w.heap.size, 0, none⟩) 0 0) 0 [] := (World.ownsRow_made w #[] 0 (Nat.le_refl _) (by unfold maxLen; omega) rfl).kept hg1 (.inr (by simp [Value.ownBlock]))
  have hb0 := ((Below.refl w.heap.size w).alloc (Nat.le_refl _) (.cells #[] 9)).grown hg1 (by simp) (fun j hj => by cases hj)
  have HP : Hid (∀ j, j ≤ C → w1.cell? ⟨w.heap.size + 1, j, none⟩ = some (.string ((Lib.splitB sepB 0 (Lib.countB s sepB) s).getD j ByteArray.empty))) := hcell
  obtain ⟨G, hG⟩ : ∃ G, G = w.heap.size + 1 := ⟨_, rfl⟩
  have HG : Hid (G = w.heap.size + 1) := hG
  have hGw : w.heap.size < G := by omega
  have hGr : G < w1.heap.size := by omega
  have hne0 : Value.ownBlock (.slice (some ⟨w.heap.size, 0, none⟩) 0 0) ≠ some G := by simp [Value.ownBlock]; omega
  rw [← hG] at HP ⊢
  clear hcell hg1 hw1 hG hsplit
  go_loopw [3, 17] (fun v i wr => ∃ (k : Nat) (acc : List (List Int)) (av : Option Addr) (cv : Nat), k ≤ C ∧ i = .int .i64 k ∧ v = .slice av acc.length cv ∧ (acc.length : Int) ≤ 400 ∧ Hid (unitsOf (nums s) = ((cuts (nums s)).2.drop k).foldl pushU acc) ∧ Hid (Value.ownBlock (.slice av acc.length cv) ≠ some G) ∧ wr.ownsRow w.heap.size 9 1 (.slice av acc.length cv) acc.length (txts acc) ∧ Hid (∀ j, j ≤ C → wr.cell? ⟨G, j, none⟩ = some (.string ((Lib.splitB sepB 0 (Lib.countB s sepB) s).getD j ByteArray.empty))) ∧ G < wr.heap.size ∧ Below w.heap.size w wr)
    (fun _ i _ => C - (intOf i).toNat)
  case atStart => exact ⟨0, [], _, _, Nat.zero_le _, rfl, rfl, by simp, HU.out, hne0, hownA, HP.out, hGr, hb0⟩
  case round =>
    obtain ⟨k, acc, av, cv, hk, rfl, rfl, hac, HF, HNE, hown, HPr, hGr', hb⟩ := hrel
    clear hownA hb0 hne0 hGr HP
    have hbs := hb.size
    by_cases hlt : k < C
    · have d1 := HPr.out (k + 1) (by omega)
      have hps := piece_size (s := s) (k + 1) (by omega)
      have HF1 : Hid (unitsOf (nums s) = ((cuts (nums s)).2.drop (k + 1)).foldl pushU (pushU acc (nums ((Lib.splitB sepB 0 (Lib.countB s sepB) s).getD (k + 1) ByteArray.empty)))) := by
        have := HF.out; rw [piece_nums HC.out k hlt, List.foldl_cons] at this; exact this
      generalize (Lib.splitB sepB 0 (Lib.countB s sepB) s).getD (k + 1) ByteArray.empty = x at d1 hps HF1
      clear HF HU
      have d2 : wr.cell? ⟨G, 1 + k, none⟩ = some (.string x) := by rw [Nat.add_comm]; exact d1
      clear d1
      have l0 : (0 : Int) ≤ (k : Int) := by omega
      have l1 : (k : Int) < (C : Int) := by omega
      obtain ⟨t, hT⟩ : ∃ t : ByteArray, t = ⟨(Lib.trimRightB x.data.toList 0).toArray⟩ := ⟨_, rfl⟩
      have ht : nums t = trimR (nums x) := by rw [hT]; exact trim_nums x
      have hts : t.size ≤ 60000 := by rw [hT]; exact Nat.le_trans (trim_size x) hps
      have htr : Hid (∀ w, Calls Tryd.prog 25 #[.string x, .string ⟨#[0]⟩] w fun e w' => e = .returned (.string t) ∧ w' = w) := fun w => by
        rw [hT]; exact Tryd.strings_TrimRight_one x 0 (by decide) w (by omega)
      have hpu : pushU acc (nums x) = if uneOk (nums t) = true ∧ acc.length < 400 then acc ++ [une 0 (nums t)] else acc := by unfold pushU; rw [ht]
      by_cases hok : uneOk (nums t) = true
      · obtain ⟨y, hY⟩ : ∃ y, y = strOfNums (une 0 (nums t)) := ⟨_, rfl⟩
        have hun : Hid (∀ w, Calls Tryd.prog 24 #[.string t] w fun e w' => e = .returned (.tuple #[.string y, .bool true]) ∧ Below w.heap.size w w') := fun w => by
          rw [hY, ← uneV_yes hok]; exact implUnescaped t w (by omega)
        by_cases h4 : acc.length < 400
        · have HF2 : Hid (unitsOf (nums s) = ((cuts (nums s)).2.drop (k + 1)).foldl pushU (acc ++ [une 0 (nums t)])) := by have := HF1.out; rw [hpu, if_pos ⟨hok, h4⟩] at this; exact this
          have HT : Hid (txts (acc ++ [une 0 (nums t)]) = txts acc ++ [.string y]) := by show _ = _; rw [txts_snoc, hY]
          have h4' : (acc.length : Int) < 400 := by omega
          clear hpu hok HF1 ht hT hY
          go_wp2_with (first
            | (go_at_call 25; refine (htr.out _).mono ?_; rintro e w2 ⟨rfl, hw2⟩; subst w2)
            | (go_at_call 24; refine (hun.out _).mono ?_; rintro e w3 ⟨rfl, hb3⟩; have hown3 := row_belowI hown hb3; have hb4 := hb.trans (hb3.mono hb.size); have hbs4 := hb4.size; have hGr4 : G < w3.heap.size := Nat.lt_of_lt_of_le hGr' hb3.size; have HP3 : Hid (∀ j, j ≤ C → w3.cell? ⟨G, j, none⟩ = some (.string ((Lib.splitB sepB 0 (Lib.countB s sepB) s).getD j ByteArray.empty))) := (fun j hj => (hb3.cell (p := ⟨G, j, none⟩) hGr').trans (HPr.out j hj)); clear hown hb d2 HPr hGr' hb3)
            | (at_builtin; refine wpList_append_lies _ (by rfl) _ _ 24 (by rfl) w.heap.size 9 i0 (.string ByteArray.empty) 1 16 Tryd.underlying24 hi0 hz0 hz1 hz2 rfl (by omega) _ acc.length _ (by rfl) (hown3.alloc _) ⟨w3.heap.size, 0, none⟩ 1 1 [.string y] (by rfl) (by rfl) (World.news_of_block (cs := #[.string y]) (t := 9) (fr := (0, 0)) (heap_alloc_new w3 _)) (by simp [Value.oneCell']) (by omega) (by unfold maxLen; omega) (by omega) (by simp <;> omega) (w3.heap.size + 1) (by simp) ?_; intro gg cp w4 hown4 hgrow hat hlt2))
          have hown5 : w4.ownsRow w.heap.size 9 1 (.slice (some ⟨gg, 0, none⟩) (acc ++ [une 0 (nums t)]).length cp) (acc ++ [une 0 (nums t)]).length (txts (acc ++ [une 0 (nums t)])) := by rw [HT.out]; simpa using hown4
          have hb5 := (hb4.alloc hbs4 _).grown hgrow (by simp; omega) (fun j hj => (hown3.lt j hj).1)
          have HP5 : Hid (∀ j, j ≤ C → w4.cell? ⟨G, j, none⟩ = some (.string ((Lib.splitB sepB 0 (Lib.countB s sepB) s).getD j ByteArray.empty))) := fun j hj => hgrow.cell ((World.grownBy_alloc w3 _ none).cell (HP3.out j hj) (by simp)) (fun h => HNE.out h.symm)
          have HNE5 : Hid (Value.ownBlock (.slice (some ⟨gg, 0, none⟩) (acc ++ [une 0 (nums t)]).length cp) ≠ some G) := by
            intro h
            have h1 : gg = G := by simpa [Value.ownBlock] using h
            rcases hat with h2 | h2
            · exact HNE.out (by rw [h2, h1])
            · omega
          have hGr5 : G < w4.heap.size := by have := hgrow.size; simp at this; omega
          clear hown4 hgrow hat hlt2 hown3 hb4 HP3 HNE HT
          go_roundw
          case rel => exact ⟨k + 1, acc ++ [une 0 (nums t)], _, _, by omega, by go_num, by simp, by simp; omega, HF2.out, HNE5.out, hown5, HP5.out, hGr5, hb5⟩
          case measure => simp [intOf]; omega
        · have HF2 : Hid (unitsOf (nums s) = ((cuts (nums s)).2.drop (k + 1)).foldl pushU acc) := by have := HF1.out; rw [hpu, if_neg (fun x => h4 x.2)] at this; exact this
          have h4' : decide ((acc.length : Int) < 400) = false := decide_eq_false (by omega)
          have HAC : Hid ((acc.length : Int) ≤ 400) := hac
          clear hpu hok HF1 ht hT hY h4 hac
          go_wp2_with (first
            | (go_at_call 25; refine (htr.out _).mono ?_; rintro e w2 ⟨rfl, hw2⟩; subst w2)
            | (go_at_call 24; refine (hun.out _).mono ?_; rintro e w3 ⟨rfl, hb3⟩; have hown3 := row_belowI hown hb3; have hb4 := hb.trans (hb3.mono hb.size); have hGr4 : G < w3.heap.size := Nat.lt_of_lt_of_le hGr' hb3.size; have HP3 : Hid (∀ j, j ≤ C → w3.cell? ⟨G, j, none⟩ = some (.string ((Lib.splitB sepB 0 (Lib.countB s sepB) s).getD j ByteArray.empty))) := (fun j hj => (hb3.cell (p := ⟨G, j, none⟩) hGr').trans (HPr.out j hj)); clear hown hb d2 HPr hGr' hb3))
          go_roundw
          case rel => exact ⟨k + 1, acc, _, _, by omega, by go_num, rfl, HAC.out, HF2.out, HNE.out, hown3, HP3.out, hGr4, hb4⟩
          case measure => simp [intOf]; omega
      · have hok' : uneOk (nums t) = false := by simpa using hok
        have hun : Hid (∀ w, Calls Tryd.prog 24 #[.string t] w fun e w' => e = .returned (.tuple #[.string ⟨#[]⟩, .bool false]) ∧ Below w.heap.size w w') := fun w => by
          rw [← uneV_no hok']; exact implUnescaped t w (by omega)
        have HF2 : Hid (unitsOf (nums s) = ((cuts (nums s)).2.drop (k + 1)).foldl pushU acc) := by have := HF1.out; rw [hpu, if_neg (fun x => hok x.1)] at this; exact this
        clear hpu hok hok' HF1 ht hT
        go_wp2_with (first
          | (go_at_call 25; refine (htr.out _).mono ?_; rintro e w2 ⟨rfl, hw2⟩; subst w2)
          | (go_at_call 24; refine (hun.out _).mono ?_; rintro e w3 ⟨rfl, hb3⟩; have hown3 := row_belowI hown hb3; have hb4 := hb.trans (hb3.mono hb.size); have hGr4 : G < w3.heap.size := Nat.lt_of_lt_of_le hGr' hb3.size; have HP3 : Hid (∀ j, j ≤ C → w3.cell? ⟨G, j, none⟩ = some (.string ((Lib.splitB sepB 0 (Lib.countB s sepB) s).getD j ByteArray.empty))) := (fun j hj => (hb3.cell (p := ⟨G, j, none⟩) hGr').trans (HPr.out j hj)); clear hown hb d2 HPr hGr' hb3))
        go_roundw
        case rel => exact ⟨k + 1, acc, _, _, by omega, by go_num, rfl, hac, HF2.out, HNE.out, hown3, HP3.out, hGr4, hb4⟩
        case measure => simp [intOf]; omega
    · obtain rfl : k = C := by omega
      have HF2 : Hid (unitsOf (nums s) = acc) := by have := HF.out; rw [List.drop_eq_nil_of_le (by rw [cuts_count, ← HC.out]; exact Nat.le_refl _)] at this; exact this
      go_wp2
      go_ret
      rw [HF2.out]
      exact ⟨_, rfl, hown, hb⟩
end Go.Proofs.YtabpdiekmljceaaDoor
