/-
  The walks of impl.Framed and spec.Framed.
-/
import Derived.Test.YtabpdiekmljceaaDoorUnitSpec
import Derived.Test.YtabpdiekmljceaaDoorUnitTexts
import Derived.Lib.AppendStr
namespace Go.Proofs.YtabpdiekmljceaaDoor
open Go.RowKit
set_option linter.unusedVariables false
attribute [local go_sem ↓] Go.wp_at_zero Go.wp_at_succ

def frV : Option (List Int) → Value
  | some l => .tuple #[.string (strOfNums l), .bool true]
  | none => .tuple #[.string ⟨#[]⟩, .bool false]
def framedV (xs : List ByteArray) : Value := frV (framed (xs.map nums))
theorem strCells_nums (s : ByteArray) : Lib.strCells s = (nums s).map (Value.int .u8) := by
  unfold Lib.strCells nums
  rw [List.map_map]
  rfl
theorem own_shape {w : World} {base e n : Nat} {v : Value} {xs : List Value} (h : w.ownsRow base e 1 v n xs) : ∃ a c, v = .slice a n c := by
  rcases h.2 with ⟨rfl, rfl⟩ | ⟨g, cap, cur, rfl, _⟩
  · exact ⟨_, _, rfl⟩
  · exact ⟨_, _, rfl⟩
theorem own_mark {w : World} {base n : Nat} {v : Value} {acc : List Int} (h : w.ownsRow base 5 1 v (n + (⟨#[0, 0, 1]⟩ : ByteArray).size) (acc.map (Value.int .u8) ++ Lib.strCells ⟨#[0, 0, 1]⟩)) : w.ownsRow base 5 1 v (n + 3) ((acc ++ [0, 0, 1]).map (Value.int .u8)) := by
  rw [List.map_append]
  exact h
theorem drop_nums {xs : List ByteArray} {k : Nat} (hk : k < xs.length) : (xs.map nums).drop k = nums (xs.getD k ByteArray.empty) :: (xs.map nums).drop (k + 1) := by
  rw [List.drop_eq_getElem_cons (by simpa using hk)]
  simp [List.getD_eq_getElem?_getD, List.getElem?_eq_getElem hk]
theorem frF_no {acc u : List Int} {t : List (List Int)} (h : escOk u = false) : frF acc (u :: t) = none := by rw [frF, if_neg (by simp [h])]
theorem frF_long {acc u : List Int} {t : List (List Int)} (h : 60000 < acc.length + 3 + (esc 0 u).length) : frF acc (u :: t) = none := by rw [frF, if_neg (by omega)]
theorem frF_yes {acc u : List Int} {t : List (List Int)} (h : escOk u = true) (h2 : acc.length + 3 + (esc 0 u).length ≤ 60000) : frF acc (u :: t) = frF (acc ++ [0, 0, 1] ++ esc 0 u) t := by
  rw [frF, if_pos ⟨h, h2⟩]
  simp

set_option maxHeartbeats 1600000 in
theorem implFramed (a : Option Addr) (c : Nat) (xs : List ByteArray) (w : World) (ht : Texts w a xs) (hl : xs.length ≤ 1048576) :
    Calls Tryd.prog 9 #[.slice a xs.length c] w fun e w' => e = .returned (framedV xs) ∧ Below w.heap.size w w' := by
  obtain ⟨i0, hi0, hz0, hz1, hz2⟩ := info_parts infoF
  have HT : Hid (Texts w a xs) := ht
  clear ht
  obtain ⟨n, hn⟩ : ∃ n, n = xs.length := ⟨_, rfl⟩
  have HN : Hid (n = xs.length) := hn
  rw [← hn] at hl ⊢
  clear hn
  by_cases hbig : 400 < n
  · have HV : Hid (framedV xs = .tuple #[.string ⟨#[]⟩, .bool false]) := by
      show _ = _
      unfold framedV framed
      rw [if_pos (by rw [List.length_map, ← HN.out]; exact hbig)]
      rfl
    go_enter Tryd.func9, Tryd.ntmps9
    go_wp2
    go_ret2
    rw [HV.out]
    exact ⟨rfl, Below.refl _ _⟩
  have HV0 : Hid (framedV xs = frV (frF [] (xs.map nums))) := by
    show _ = _
    unfold framedV framed
    rw [if_neg (by rw [List.length_map, ← HN.out]; exact hbig)]
  have hl' : (n : Int) ≤ 400 := by omega
  go_enter Tryd.func9, Tryd.ntmps9
  go_wp2
  go_loopw [4, 15] (fun v i wr => ∃ (k ca : Nat) (ga : Option Addr) (acc : List Int), k ≤ n ∧ i = .int .i64 k ∧ v = .slice ga acc.length ca ∧ (acc.length : Int) ≤ 60000 ∧ Hid (framedV xs = frV (frF acc ((xs.map nums).drop k))) ∧ wr.ownsRow w.heap.size 5 1 (.slice ga acc.length ca) acc.length (acc.map (Value.int .u8)) ∧ Below w.heap.size w wr)
    (fun _ i _ => n - (intOf i).toNat)
  case atStart => exact ⟨0, _, _, [], Nat.zero_le _, rfl, rfl, by simp, HV0.out, World.ownsRow_made w #[] 0 (Nat.le_refl _) (by unfold maxLen; omega) rfl, (Below.refl _ _).alloc (Nat.le_refl _) _⟩
  case round =>
    obtain ⟨k, ca, ga, acc, hk, rfl, rfl, hac, HV, hown, hb⟩ := hrel
    have hbs := hb.size
    by_cases hlt : k < n
    · have hlt' : k < xs.length := by rw [← HN.out]; exact hlt
      rcases HT.out with h | ⟨b, off, rfl, hg, hc⟩
      · rw [h] at hlt'; simp at hlt'
      have d1 : wr.cell? ⟨b, off + k, none⟩ = some (.string (xs.getD k ByteArray.empty)) := (hb.cell (p := ⟨b, off + k, none⟩) hg).trans (hc k hlt')
      have HF : Hid (framedV xs = frV (frF acc (nums (xs.getD k ByteArray.empty) :: (xs.map nums).drop (k + 1)))) := by
        have := HV.out; rw [drop_nums hlt'] at this; exact this
      generalize xs.getD k ByteArray.empty = x at d1 HF
      clear hc hlt' HV HV0
      have l0 : (0 : Int) ≤ (k : Int) := by omega
      have l1 : (k : Int) < (n : Int) := by omega
      by_cases he : escOk (nums x) = true
      · obtain ⟨t, hT⟩ : ∃ t, t = strOfNums (esc 0 (nums x)) := ⟨_, rfl⟩
        have HE : Hid (nums t = esc 0 (nums x)) := by show _ = _; rw [hT]; exact nums_of _ (esc_bd _ _ (nums_bd x))
        have hts : t.size = (esc 0 (nums x)).length := by rw [hT]; exact strOfNums_size _
        have hc1 : ∀ w, Calls Tryd.prog 22 #[.string x] w fun e w' => e = .returned (.tuple #[.string t, .bool true]) ∧ Below w.heap.size w w' := fun w => by rw [hT, ← escV_yes he]; exact implEscaped x w
        have hsz : (t.size : Int) ≤ 120000 := by rw [hts]; have := esc_length_le (nums x) 0; have := (escOk_parts he).2.1; omega
        clear hT
        by_cases hlong : 60000 < acc.length + 3 + t.size
        · have HN2 : Hid (framedV xs = .tuple #[.string ⟨#[]⟩, .bool false]) := by have := HF.out; rw [frF_long (by omega)] at this; exact this
          clear hts he HF
          have hlong' : 60000 < (acc.length : Int) + 3 + (t.size : Int) := by omega
          go_wp2_with (go_at_call 22; refine (hc1 _).mono ?_; rintro e w1 ⟨rfl, hb1⟩)
          go_ret2
          rw [HN2.out]
          exact ⟨rfl, hb.trans (hb1.mono hb.size)⟩
        · have HY : Hid (framedV xs = frV (frF (acc ++ [0, 0, 1] ++ nums t) ((xs.map nums).drop (k + 1)))) := by have := HF.out; rw [frF_yes he (by omega), ← HE.out] at this; exact this
          clear hts he HF
          have hlong' : (acc.length : Int) + 3 + (t.size : Int) ≤ 60000 := by omega
          go_wp2_with (first
            | (go_at_call 22; refine (hc1 _).mono ?_; rintro e w1 ⟨rfl, hb1⟩; have hown1 := row_below hown hb1; have hb2 := hb.trans (hb1.mono hb.size); have hbs2 := hb2.size; clear hown)
            | (at_builtin; refine Lib.wpList_append_own_string _ (by rfl) _ _ 22 9 (by rfl) w.heap.size 5 i0 Tryd.underlying22 Tryd.underlying9 hi0 hz0 hz1 hz2 _ acc.length _ (by rfl) hown1 ⟨#[0, 0, 1]⟩ (by rfl) (by show acc.length + 3 ≤ _; unfold maxLen; omega) (by show acc.length + 3 ≤ _; omega) hbs2 ?_; intro v2 w2 hown2 hgrow2 hiff2; have hb3 := hb2.grown hgrow2 hbs2 (fun j hj => (hown1.lt j hj).1); have hbs3 := hb3.size; clear hiff2 hgrow2 hown1 hb2; have hown3 : w2.ownsRow w.heap.size 5 1 v2 (acc.length + 3) ((acc ++ [0, 0, 1]).map (Value.int .u8)) := own_mark hown2; clear hown2)
            | (at_builtin; refine Lib.wpList_append_own_string _ (by rfl) _ _ 22 9 (by rfl) w.heap.size 5 i0 Tryd.underlying22 Tryd.underlying9 hi0 hz0 hz1 hz2 _ (acc.length + 3) _ (by rfl) hown3 t (by rfl) (by unfold maxLen; omega) (by omega) hbs3 ?_; intro v4 w4 hown4 hgrow4 hiff4; have hb5 := hb3.grown hgrow4 hbs3 (fun j hj => (hown3.lt j hj).1); clear hiff4 hgrow4 hown3 hb3))
          have hown5 : w4.ownsRow w.heap.size 5 1 v4 (acc ++ [0, 0, 1] ++ nums t).length ((acc ++ [0, 0, 1] ++ nums t).map (Value.int .u8)) := by
            rw [strCells_nums, ← List.map_append] at hown4
            exact own_len hown4 (by simp [nums_length]; omega)
          clear hown4
          obtain ⟨a5, c5, rfl⟩ := own_shape hown5
          go_roundw
          case rel => exact ⟨k + 1, c5, a5, acc ++ [0, 0, 1] ++ nums t, by omega, by go_num, rfl, by simp [nums_length]; omega, HY.out, hown5, hb5⟩
          case measure => simp [intOf]; omega
      · have he' : escOk (nums x) = false := by simpa using he
        have hc1 : ∀ w, Calls Tryd.prog 22 #[.string x] w fun e w' => e = .returned (.tuple #[.string ⟨#[]⟩, .bool false]) ∧ Below w.heap.size w w' := fun w => by rw [← escV_no he']; exact implEscaped x w
        have HN2 : Hid (framedV xs = .tuple #[.string ⟨#[]⟩, .bool false]) := by have := HF.out; rw [frF_no he'] at this; exact this
        clear he he' HF
        go_wp2_with (go_at_call 22; refine (hc1 _).mono ?_; rintro e w1 ⟨rfl, hb1⟩)
        go_ret2
        rw [HN2.out]
        exact ⟨rfl, hb.trans (hb1.mono hb.size)⟩
    · obtain rfl : k = n := by omega
      have HY : Hid (framedV xs = .tuple #[.string (strOfNums acc), .bool true]) := by
        have := HV.out; rw [List.drop_eq_nil_of_le (by rw [List.length_map, ← HN.out]; omega), frF] at this; exact this
      have hconv := convF hown
      go_wp2
      go_ret2
      rw [HY.out]
      exact ⟨rfl, hb⟩
set_option maxHeartbeats 1600000 in
theorem specFramed (a : Option Addr) (c : Nat) (xs : List ByteArray) (w : World) (ht : Texts w a xs) (hl : xs.length ≤ 1048576) :
    Calls Tryd.prog 26 #[.slice a xs.length c] w fun e w' => e = .returned (framedV xs) ∧ Below w.heap.size w w' := by
  obtain ⟨i0, hi0, hz0, hz1, hz2⟩ := info_parts infoF
  have HT : Hid (Texts w a xs) := ht
  clear ht
  obtain ⟨n, hn⟩ : ∃ n, n = xs.length := ⟨_, rfl⟩
  have HN : Hid (n = xs.length) := hn
  rw [← hn] at hl ⊢
  clear hn
  by_cases hbig : 400 < n
  · have HV : Hid (framedV xs = .tuple #[.string ⟨#[]⟩, .bool false]) := by
      show _ = _
      unfold framedV framed
      rw [if_pos (by rw [List.length_map, ← HN.out]; exact hbig)]
      rfl
    go_enter Tryd.func26, Tryd.ntmps26
    go_wp2
    go_ret2
    rw [HV.out]
    exact ⟨rfl, Below.refl _ _⟩
  have HV0 : Hid (framedV xs = frV (frF [] (xs.map nums))) := by
    show _ = _
    unfold framedV framed
    rw [if_neg (by rw [List.length_map, ← HN.out]; exact hbig)]
  have hl' : (n : Int) ≤ 400 := by omega
  go_enter Tryd.func26, Tryd.ntmps26
  go_wp2
  go_loopw [4, 5] (fun v i wr => ∃ (k ca : Nat) (ga : Option Addr) (acc : List Int), k ≤ n ∧ i = .int .i64 k ∧ v = .slice ga acc.length ca ∧ (acc.length : Int) ≤ 60000 ∧ Hid (framedV xs = frV (frF acc ((xs.map nums).drop k))) ∧ wr.ownsRow w.heap.size 5 1 (.slice ga acc.length ca) acc.length (acc.map (Value.int .u8)) ∧ Below w.heap.size w wr)
    (fun _ i _ => n - (intOf i).toNat)
  case atStart => exact ⟨0, _, _, [], Nat.zero_le _, rfl, rfl, by simp, HV0.out, World.ownsRow_made w #[] 0 (Nat.le_refl _) (by unfold maxLen; omega) rfl, (Below.refl _ _).alloc (Nat.le_refl _) _⟩
  case round =>
    obtain ⟨k, ca, ga, acc, hk, rfl, rfl, hac, HV, hown, hb⟩ := hrel
    have hbs := hb.size
    by_cases hlt : k < n
    · have hlt' : k < xs.length := by rw [← HN.out]; exact hlt
      rcases HT.out with h | ⟨b, off, rfl, hg, hc⟩
      · rw [h] at hlt'; simp at hlt'
      have d1 : wr.cell? ⟨b, off + k, none⟩ = some (.string (xs.getD k ByteArray.empty)) := (hb.cell (p := ⟨b, off + k, none⟩) hg).trans (hc k hlt')
      have HF : Hid (framedV xs = frV (frF acc (nums (xs.getD k ByteArray.empty) :: (xs.map nums).drop (k + 1)))) := by
        have := HV.out; rw [drop_nums hlt'] at this; exact this
      generalize xs.getD k ByteArray.empty = x at d1 HF
      clear hc hlt' HV HV0
      have l0 : (0 : Int) ≤ (k : Int) := by omega
      have l1 : (k : Int) < (n : Int) := by omega
      by_cases he : escOk (nums x) = true
      · obtain ⟨t, hT⟩ : ∃ t, t = strOfNums (esc 0 (nums x)) := ⟨_, rfl⟩
        have HE : Hid (nums t = esc 0 (nums x)) := by show _ = _; rw [hT]; exact nums_of _ (esc_bd _ _ (nums_bd x))
        have hts : t.size = (esc 0 (nums x)).length := by rw [hT]; exact strOfNums_size _
        have hc1 : ∀ w, Calls Tryd.prog 38 #[.string x] w fun e w' => e = .returned (.tuple #[.string t, .bool true]) ∧ Below w.heap.size w w' := fun w => by rw [hT, ← escV_yes he]; exact specEscaped x w
        have hsz : (t.size : Int) ≤ 120000 := by rw [hts]; have := esc_length_le (nums x) 0; have := (escOk_parts he).2.1; omega
        clear hT
        by_cases hlong : 60000 < acc.length + 3 + t.size
        · have HN2 : Hid (framedV xs = .tuple #[.string ⟨#[]⟩, .bool false]) := by have := HF.out; rw [frF_long (by omega)] at this; exact this
          clear hts he HF
          have hlong' : 60000 < (acc.length : Int) + 3 + (t.size : Int) := by omega
          go_wp2_with (first
            | (go_at_call 38; refine (hc1 _).mono ?_; rintro e w1 ⟨rfl, hb1⟩; have hown1 := row_below hown hb1; have hb2 := hb.trans (hb1.mono hb.size); have hbs2 := hb2.size; clear hown)
            | (at_builtin; refine wpList_append_lies _ (by rfl) _ _ 22 (by rfl) w.heap.size 5 i0 (.int .u8 0) 1 1 Tryd.underlying22 hi0 hz0 hz1 hz2 rfl (by omega) _ acc.length _ (by rfl) (hown1.alloc _) ⟨w1.heap.size, 0, none⟩ 3 3 [.int .u8 0, .int .u8 0, .int .u8 1] (by rfl) (by rfl) (World.news_of_block (cs := #[.int .u8 0, .int .u8 0, .int .u8 1]) (t := 5) (fr := (0, 0)) (heap_alloc_new w1 _)) (by simp [Value.oneCell']) (by omega) (by unfold maxLen; omega) (by omega) (by simp <;> omega) (w1.heap.size + 1) (by simp) ?_; intro gg cap2 w2 hown2 hgrow2 hat hlt2; have hb3 := (hb2.alloc hbs2 _).grown hgrow2 (by simp <;> omega) (fun j hj => (hown1.lt j hj).1); have hbs3 := hb3.size; clear hat hlt2 hgrow2 hown1 hb2; have hown3 : w2.ownsRow w.heap.size 5 1 (.slice (some ⟨gg, 0, none⟩) (acc.length + 3) cap2) (acc.length + 3) ((acc ++ [0, 0, 1]).map (Value.int .u8)) := (by simpa using hown2); clear hown2)
            | (at_builtin; refine Lib.wpList_append_own_string _ (by rfl) _ _ 22 9 (by rfl) w.heap.size 5 i0 Tryd.underlying22 Tryd.underlying9 hi0 hz0 hz1 hz2 _ (acc.length + 3) _ (by rfl) hown3 t (by rfl) (by unfold maxLen; omega) (by omega) hbs3 ?_; intro v4 w4 hown4 hgrow4 hiff4; have hb5 := hb3.grown hgrow4 hbs3 (fun j hj => (hown3.lt j hj).1); clear hiff4 hgrow4 hown3 hb3; obtain ⟨a5, c5, rfl⟩ := own_shape hown4))
          go_ret2
          rw [HN2.out]
          exact ⟨rfl, hb5⟩
        · have HY : Hid (framedV xs = frV (frF (acc ++ [0, 0, 1] ++ nums t) ((xs.map nums).drop (k + 1)))) := by have := HF.out; rw [frF_yes he (by omega), ← HE.out] at this; exact this
          clear hts he HF
          have hlong' : (acc.length : Int) + 3 + (t.size : Int) ≤ 60000 := by omega
          go_wp2_with (first
            | (go_at_call 38; refine (hc1 _).mono ?_; rintro e w1 ⟨rfl, hb1⟩; have hown1 := row_below hown hb1; have hb2 := hb.trans (hb1.mono hb.size); have hbs2 := hb2.size; clear hown)
            | (at_builtin; refine wpList_append_lies _ (by rfl) _ _ 22 (by rfl) w.heap.size 5 i0 (.int .u8 0) 1 1 Tryd.underlying22 hi0 hz0 hz1 hz2 rfl (by omega) _ acc.length _ (by rfl) (hown1.alloc _) ⟨w1.heap.size, 0, none⟩ 3 3 [.int .u8 0, .int .u8 0, .int .u8 1] (by rfl) (by rfl) (World.news_of_block (cs := #[.int .u8 0, .int .u8 0, .int .u8 1]) (t := 5) (fr := (0, 0)) (heap_alloc_new w1 _)) (by simp [Value.oneCell']) (by omega) (by unfold maxLen; omega) (by omega) (by simp <;> omega) (w1.heap.size + 1) (by simp) ?_; intro gg cap2 w2 hown2 hgrow2 hat hlt2; have hb3 := (hb2.alloc hbs2 _).grown hgrow2 (by simp <;> omega) (fun j hj => (hown1.lt j hj).1); have hbs3 := hb3.size; clear hat hlt2 hgrow2 hown1 hb2; have hown3 : w2.ownsRow w.heap.size 5 1 (.slice (some ⟨gg, 0, none⟩) (acc.length + 3) cap2) (acc.length + 3) ((acc ++ [0, 0, 1]).map (Value.int .u8)) := (by simpa using hown2); clear hown2)
            | (at_builtin; refine Lib.wpList_append_own_string _ (by rfl) _ _ 22 9 (by rfl) w.heap.size 5 i0 Tryd.underlying22 Tryd.underlying9 hi0 hz0 hz1 hz2 _ (acc.length + 3) _ (by rfl) hown3 t (by rfl) (by unfold maxLen; omega) (by omega) hbs3 ?_; intro v4 w4 hown4 hgrow4 hiff4; have hb5 := hb3.grown hgrow4 hbs3 (fun j hj => (hown3.lt j hj).1); clear hiff4 hgrow4 hown3 hb3; obtain ⟨a5, c5, rfl⟩ := own_shape hown4))
          have hown5 : w4.ownsRow w.heap.size 5 1 (.slice a5 (acc ++ [0, 0, 1] ++ nums t).length c5) (acc ++ [0, 0, 1] ++ nums t).length ((acc ++ [0, 0, 1] ++ nums t).map (Value.int .u8)) := by
            rw [strCells_nums, ← List.map_append] at hown4
            exact own_len2 hown4 (by simp [nums_length]; omega)
          clear hown4
          go_roundw
          case rel => exact ⟨k + 1, c5, a5, acc ++ [0, 0, 1] ++ nums t, by omega, by go_num, by simp [nums_length]; omega, by simp [nums_length]; omega, HY.out, hown5, hb5⟩
          case measure => simp [intOf]; omega
      · have he' : escOk (nums x) = false := by simpa using he
        have hc1 : ∀ w, Calls Tryd.prog 38 #[.string x] w fun e w' => e = .returned (.tuple #[.string ⟨#[]⟩, .bool false]) ∧ Below w.heap.size w w' := fun w => by rw [← escV_no he']; exact specEscaped x w
        have HN2 : Hid (framedV xs = .tuple #[.string ⟨#[]⟩, .bool false]) := by have := HF.out; rw [frF_no he'] at this; exact this
        clear he he' HF
        go_wp2_with (go_at_call 38; refine (hc1 _).mono ?_; rintro e w1 ⟨rfl, hb1⟩)
        go_ret2
        rw [HN2.out]
        exact ⟨rfl, hb.trans (hb1.mono hb.size)⟩
    · obtain rfl : k = n := by omega
      have HY : Hid (framedV xs = .tuple #[.string (strOfNums acc), .bool true]) := by
        have := HV.out; rw [List.drop_eq_nil_of_le (by rw [List.length_map, ← HN.out]; omega), frF] at this; exact this
      have hconv := convF hown
      go_wp2
      go_ret2
      rw [HY.out]
      exact ⟨rfl, hb⟩
end Go.Proofs.YtabpdiekmljceaaDoor
