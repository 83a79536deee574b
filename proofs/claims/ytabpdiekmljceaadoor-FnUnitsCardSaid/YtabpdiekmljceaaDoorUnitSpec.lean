/-
  The walks of spec.l04Escaped, spec.Escaped and spec.Unescaped.
-/
import Derived.Test.YtabpdiekmljceaaDoorUnitOff
namespace Go.Proofs.YtabpdiekmljceaaDoor
open Go.RowKit
set_option linter.unusedVariables false
attribute [local go_sem ↓] Go.wp_at_zero Go.wp_at_succ

theorem own_len2 {w : World} {base e n m : Nat} {a : Option Addr} {c : Nat} {xs : List Value} (h : w.ownsRow base e 1 (.slice a n c) n xs) (hm : n = m) : w.ownsRow base e 1 (.slice a m c) m xs := hm ▸ h
theorem cellE {w : World} {base g c : Nat} {E : List Int} (h : w.ownsRow base 5 1 (.slice (some ⟨g, 0, none⟩) E.length c) E.length (E.map (Value.int .u8))) (j : Nat) (hj : j < E.length) : w.cell? ⟨g, j, none⟩ = some (.int .u8 (E.getD j 7)) := by
  rw [h.cellAt j (by omega), List.getElem?_map, List.getElem?_eq_getElem hj, List.getD, List.getElem?_eq_getElem hj]
  rfl
theorem esc_round (s : ByteArray) (k : Nat) (E : List Int) (hE : E = esc 0 ((nums s).take k)) (hlt : k < s.size) :
    esc 0 ((nums s).take (k + 1)) = E ++ if (2 ≤ E.length ∧ E.getD (E.length - 1) 7 = 0 ∧ E.getD (E.length - 2) 7 = 0) ∧ (s[k].toNat : Int) < 4 then [3, (s[k].toNat : Int)] else [(s[k].toNat : Int)] := by
  rw [nums_take s k hlt, esc_snoc, ← tz_esc, ← hE]
  have := tz_at E
  by_cases h : 2 ≤ tz 0 E
  · have h' := this.1 h
    by_cases h4 : (s[k].toNat : Int) < 4
    · rw [if_pos ⟨h, h4⟩, if_pos ⟨h', h4⟩]
    · rw [if_neg (fun x => h4 x.2), if_neg (fun x => h4 x.2)]
  · have h' := fun x => h (this.2 x)
    rw [if_neg (fun x => h x.1), if_neg (fun x => h' x.1)]

set_option maxHeartbeats 1600000 in
theorem specEsc (s : ByteArray) (w : World) (hs : s.size ≤ 60000) :
    Calls Tryd.prog 46 #[.string s] w fun e w' => e = .returned (.string (strOfNums (esc 0 (nums s)))) ∧ Below w.heap.size w w' := by
  obtain ⟨i0, hi0, hz0, hz1, hz2⟩ := info_parts infoF
  have hs3 : (s.size : Int) ≤ 60000 := by omega
  go_enter Tryd.func46, Tryd.ntmps46
  go_wp2
  go_loopw [3, 4] (fun v i wr => ∃ (k g cap : Nat) (E : List Int), k ≤ s.size ∧ v = .slice (some ⟨g, 0, none⟩) E.length cap ∧ i = .int .i64 k ∧ Hid (E = esc 0 ((nums s).take k)) ∧ wr.ownsRow w.heap.size 5 1 (.slice (some ⟨g, 0, none⟩) E.length cap) E.length (E.map (Value.int .u8)) ∧ Below w.heap.size w wr)
    (fun _ i _ => s.size - (intOf i).toNat)
  case atStart => exact ⟨0, _, _, [], Nat.zero_le _, rfl, rfl, rfl, World.ownsRow_made w #[] 0 (Nat.le_refl _) (by unfold maxLen; omega) rfl, (Below.refl _ _).alloc (Nat.le_refl _) _⟩
  case round =>
    obtain ⟨k, g, cap, E, hk, rfl, rfl, HE, hown, hb⟩ := hrel
    have hE : E.length ≤ 2 * k := by rw [HE.out]; have := esc_length_le ((nums s).take k) 0; simp at this; omega
    have hE' : (E.length : Int) ≤ 120000 := by omega
    have hbs := hb.size
    by_cases hlt : k < s.size
    · have h255 : (s[k].toNat : Int) ≤ 255 := by have := UInt8.toNat_lt s[k]; omega
      have h0 : (0 : Int) ≤ (s[k].toNat : Int) := Int.natCast_nonneg _
      have hk0 : (0 : Int) ≤ (k : Int) := Int.natCast_nonneg _
      have hk1 : (k : Int) < (s.size : Int) := by omega
      have HES : Hid (esc 0 ((nums s).take (k + 1)) = E ++ if (2 ≤ E.length ∧ E.getD (E.length - 1) 7 = 0 ∧ E.getD (E.length - 2) 7 = 0) ∧ (s[k].toNat : Int) < 4 then [3, (s[k].toNat : Int)] else [(s[k].toNat : Int)]) := esc_round s k E HE.out hlt
      clear HE
      by_cases h2 : E.length < 2
      · have h2' : (E.length : Int) < 2 := by omega
        have HE1 : Hid (esc 0 ((nums s).take (k + 1)) = E ++ [(s[k].toNat : Int)]) := by have := HES.out; rw [if_neg (by omega)] at this; exact this
        clear HES
        · go_wp2_with (at_builtin; refine wpList_append_lies _ (by rfl) _ _ 22 (by rfl) w.heap.size 5 i0 (.int .u8 0) 1 1 Tryd.underlying22 hi0 hz0 hz1 hz2 rfl (by omega) _ E.length _ (by rfl) (hown.alloc _) ⟨wr.heap.size, 0, none⟩ 1 1 [.int .u8 (s[k].toNat : Int)] (by rfl) (by rfl) (World.news_of_block (cs := #[.int .u8 (s[k].toNat : Int)]) (t := 5) (fr := (0, 0)) (heap_alloc_new wr _)) (by simp [Value.oneCell']) (by omega) (by unfold maxLen; omega) (by omega) (by simp <;> omega) (wr.heap.size + 1) (by simp) ?_; intro gg3 cap3 w3 hown4 hgrow hat hlt2; have hown5 : w3.ownsRow w.heap.size 5 1 (.slice (some ⟨gg3, 0, none⟩) (E.length + 1) cap3) (E.length + 1) ((E ++ [(s[k].toNat : Int)]).map (Value.int .u8)) := (by simpa using hown4); have hb3 := (hb.alloc hbs _).grown hgrow (by simp <;> omega) (fun j hj => (hown.lt j hj).1); clear hown4 hgrow hat hlt2 hown hb)
          go_roundw
          case rel => exact ⟨k + 1, gg3, cap3, E ++ [(s[k].toNat : Int)], by omega, by simp, by go_num, HE1.out.symm, own_len2 hown5 (by simp), hb3⟩
          case measure => simp [intOf]; omega
      have h2' : (2 : Int) ≤ (E.length : Int) := by omega
      have c1 := cellE hown (E.length - 1) (by omega)
      have c2 := cellE hown (E.length - 2) (by omega)
      generalize E.getD (E.length - 1) 7 = la at c1 HES
      generalize E.getD (E.length - 2) 7 = lb at c2 HES
      by_cases ha : la = 0
      · by_cases hlb : lb = 0
        · by_cases h4 : (s[k].toNat : Int) < 4
          · have HE1 : Hid (esc 0 ((nums s).take (k + 1)) = E ++ [3, (s[k].toNat : Int)]) := by have := HES.out; rw [if_pos ⟨⟨by omega, ha, hlb⟩, h4⟩] at this; exact this
            subst ha hlb
            clear HES
            go_wp2_with (first
              | (at_builtin; refine wpList_append_lies _ (by rfl) _ _ 22 (by rfl) w.heap.size 5 i0 (.int .u8 0) 1 1 Tryd.underlying22 hi0 hz0 hz1 hz2 rfl (by omega) _ E.length _ (by rfl) (hown.alloc _) ⟨wr.heap.size, 0, none⟩ 1 1 [.int .u8 3] (by rfl) (by rfl) (World.news_of_block (cs := #[.int .u8 3]) (t := 5) (fr := (0, 0)) (heap_alloc_new wr _)) (by simp [Value.oneCell']) (by omega) (by unfold maxLen; omega) (by omega) (by simp <;> omega) (wr.heap.size + 1) (by simp) ?_; intro gg cap1 w1 hown1 hgrow hat hlt2; have hown2 : w1.ownsRow w.heap.size 5 1 (.slice (some ⟨gg, 0, none⟩) (E.length + 1) cap1) (E.length + 1) ((E ++ [3]).map (Value.int .u8)) := (by simpa using hown1); have hb1 := (hb.alloc hbs _).grown hgrow (by simp <;> omega) (fun j hj => (hown.lt j hj).1); have hbs1 := hb1.size; clear hown1 hgrow hat hlt2 hown hb)
              | (at_builtin; refine wpList_append_lies _ (by rfl) _ _ 22 (by rfl) w.heap.size 5 i0 (.int .u8 0) 1 1 Tryd.underlying22 hi0 hz0 hz1 hz2 rfl (by omega) _ (E.length + 1) _ (by rfl) (hown2.alloc _) ⟨w1.heap.size, 0, none⟩ 1 1 [.int .u8 (s[k].toNat : Int)] (by rfl) (by rfl) (World.news_of_block (cs := #[.int .u8 (s[k].toNat : Int)]) (t := 5) (fr := (0, 0)) (heap_alloc_new w1 _)) (by simp [Value.oneCell']) (by omega) (by unfold maxLen; omega) (by omega) (by simp <;> omega) (w1.heap.size + 1) (by simp) ?_; intro gg3 cap3 w3 hown4 hgrow hat hlt2; have hown5 : w3.ownsRow w.heap.size 5 1 (.slice (some ⟨gg3, 0, none⟩) (E.length + 1 + 1) cap3) (E.length + 1 + 1) ((E ++ [3, (s[k].toNat : Int)]).map (Value.int .u8)) := (by simpa using hown4); have hb3 := (hb1.alloc hbs1 _).grown hgrow (by simp <;> omega) (fun j hj => (hown2.lt j hj).1); clear hown4 hgrow hat hlt2 hown2 hb1))
            go_roundw
            case rel => exact ⟨k + 1, gg3, cap3, E ++ [3, (s[k].toNat : Int)], by omega, by simp, by go_num, HE1.out.symm, own_len2 hown5 (by simp), hb3⟩
            case measure => simp [intOf]; omega
          have HE1 : Hid (esc 0 ((nums s).take (k + 1)) = E ++ [(s[k].toNat : Int)]) := by have := HES.out; rw [if_neg (fun x => h4 x.2)] at this; exact this
          subst ha hlb
          clear HES
          go_wp2_with (at_builtin; refine wpList_append_lies _ (by rfl) _ _ 22 (by rfl) w.heap.size 5 i0 (.int .u8 0) 1 1 Tryd.underlying22 hi0 hz0 hz1 hz2 rfl (by omega) _ E.length _ (by rfl) (hown.alloc _) ⟨wr.heap.size, 0, none⟩ 1 1 [.int .u8 (s[k].toNat : Int)] (by rfl) (by rfl) (World.news_of_block (cs := #[.int .u8 (s[k].toNat : Int)]) (t := 5) (fr := (0, 0)) (heap_alloc_new wr _)) (by simp [Value.oneCell']) (by omega) (by unfold maxLen; omega) (by omega) (by simp <;> omega) (wr.heap.size + 1) (by simp) ?_; intro gg3 cap3 w3 hown4 hgrow hat hlt2; have hown5 : w3.ownsRow w.heap.size 5 1 (.slice (some ⟨gg3, 0, none⟩) (E.length + 1) cap3) (E.length + 1) ((E ++ [(s[k].toNat : Int)]).map (Value.int .u8)) := (by simpa using hown4); have hb3 := (hb.alloc hbs _).grown hgrow (by simp <;> omega) (fun j hj => (hown.lt j hj).1); clear hown4 hgrow hat hlt2 hown hb)
          go_roundw
          case rel => exact ⟨k + 1, gg3, cap3, E ++ [(s[k].toNat : Int)], by omega, by simp, by go_num, HE1.out.symm, own_len2 hown5 (by simp), hb3⟩
          case measure => simp [intOf]; omega
        · have HE1 : Hid (esc 0 ((nums s).take (k + 1)) = E ++ [(s[k].toNat : Int)]) := by have := HES.out; rw [if_neg (fun x => hlb x.1.2.2)] at this; exact this
          have hlb' : (lb == 0) = false := by rw [beq_eq_false_iff_ne]; exact hlb
          subst ha
          clear HES hlb
          go_wp2_with (at_builtin; refine wpList_append_lies _ (by rfl) _ _ 22 (by rfl) w.heap.size 5 i0 (.int .u8 0) 1 1 Tryd.underlying22 hi0 hz0 hz1 hz2 rfl (by omega) _ E.length _ (by rfl) (hown.alloc _) ⟨wr.heap.size, 0, none⟩ 1 1 [.int .u8 (s[k].toNat : Int)] (by rfl) (by rfl) (World.news_of_block (cs := #[.int .u8 (s[k].toNat : Int)]) (t := 5) (fr := (0, 0)) (heap_alloc_new wr _)) (by simp [Value.oneCell']) (by omega) (by unfold maxLen; omega) (by omega) (by simp <;> omega) (wr.heap.size + 1) (by simp) ?_; intro gg3 cap3 w3 hown4 hgrow hat hlt2; have hown5 : w3.ownsRow w.heap.size 5 1 (.slice (some ⟨gg3, 0, none⟩) (E.length + 1) cap3) (E.length + 1) ((E ++ [(s[k].toNat : Int)]).map (Value.int .u8)) := (by simpa using hown4); have hb3 := (hb.alloc hbs _).grown hgrow (by simp <;> omega) (fun j hj => (hown.lt j hj).1); clear hown4 hgrow hat hlt2 hown hb)
          go_roundw
          case rel => exact ⟨k + 1, gg3, cap3, E ++ [(s[k].toNat : Int)], by omega, by simp, by go_num, HE1.out.symm, own_len2 hown5 (by simp), hb3⟩
          case measure => simp [intOf]; omega
      · have HE1 : Hid (esc 0 ((nums s).take (k + 1)) = E ++ [(s[k].toNat : Int)]) := by have := HES.out; rw [if_neg (fun x => ha x.1.2.1)] at this; exact this
        have ha' : (la == 0) = false := by rw [beq_eq_false_iff_ne]; exact ha
        clear HES ha
        · go_wp2_with (at_builtin; refine wpList_append_lies _ (by rfl) _ _ 22 (by rfl) w.heap.size 5 i0 (.int .u8 0) 1 1 Tryd.underlying22 hi0 hz0 hz1 hz2 rfl (by omega) _ E.length _ (by rfl) (hown.alloc _) ⟨wr.heap.size, 0, none⟩ 1 1 [.int .u8 (s[k].toNat : Int)] (by rfl) (by rfl) (World.news_of_block (cs := #[.int .u8 (s[k].toNat : Int)]) (t := 5) (fr := (0, 0)) (heap_alloc_new wr _)) (by simp [Value.oneCell']) (by omega) (by unfold maxLen; omega) (by omega) (by simp <;> omega) (wr.heap.size + 1) (by simp) ?_; intro gg3 cap3 w3 hown4 hgrow hat hlt2; have hown5 : w3.ownsRow w.heap.size 5 1 (.slice (some ⟨gg3, 0, none⟩) (E.length + 1) cap3) (E.length + 1) ((E ++ [(s[k].toNat : Int)]).map (Value.int .u8)) := (by simpa using hown4); have hb3 := (hb.alloc hbs _).grown hgrow (by simp <;> omega) (fun j hj => (hown.lt j hj).1); clear hown4 hgrow hat hlt2 hown hb)
          go_roundw
          case rel => exact ⟨k + 1, gg3, cap3, E ++ [(s[k].toNat : Int)], by omega, by simp, by go_num, HE1.out.symm, own_len2 hown5 (by simp), hb3⟩
          case measure => simp [intOf]; omega
    · obtain rfl : k = s.size := by omega
      have HE1 : Hid (E = esc 0 (nums s)) := by have := HE.out; rw [List.take_of_length_le (by rw [nums_length]; omega)] at this; exact this
      have hconv := convF hown
      go_wp2
      go_ret
      rw [← HE1.out]
      exact ⟨rfl, hb⟩

theorem specEscaped (s : ByteArray) (w : World) :
    Calls Tryd.prog 38 #[.string s] w fun e w' => e = .returned (escV s) ∧ Below w.heap.size w w' := by
  by_cases hs0 : s.size = 0
  · have HV : Hid (escV s = .tuple #[.string ⟨#[]⟩, .bool false]) := escV_no (escOk_none hs0)
    have hs0' : ((s.size : Int) == 0) = true := by rw [hs0]; rfl
    go_enter Tryd.func38, Tryd.ntmps38
    go_wp2
    go_ret2
    rw [HV.out]
    exact ⟨rfl, Below.refl _ _⟩
  by_cases hs1 : 60000 < s.size
  · have HV : Hid (escV s = .tuple #[.string ⟨#[]⟩, .bool false]) := escV_no (escOk_long hs1)
    have hs0' : ((s.size : Int) == 0) = false := by rw [beq_eq_false_iff_ne]; omega
    go_enter Tryd.func38, Tryd.ntmps38
    go_wp2
    go_ret2
    rw [HV.out]
    exact ⟨rfl, Below.refl _ _⟩
  have hs0' : ((s.size : Int) == 0) = false := by rw [beq_eq_false_iff_ne]; omega
  have hs2 : (1 : Int) ≤ (s.size : Int) := by omega
  have hs3 : (s.size : Int) ≤ 60000 := by omega
  have hsz : s.size - 1 < s.size := by omega
  have HO := escOk_at s (by omega) (by omega)
  by_cases hl : s[s.size - 1].toNat = 0
  · have HV : Hid (escV s = .tuple #[.string ⟨#[]⟩, .bool false]) := escV_no (by rw [HO]; simp [hl])
    have hl' : ((s[s.size - 1].toNat : Int) == 0) = true := by rw [hl]; rfl
    clear HO
    go_enter Tryd.func38, Tryd.ntmps38
    go_wp2
    go_ret2
    rw [HV.out]
    exact ⟨rfl, Below.refl _ _⟩
  have HV : Hid (escV s = .tuple #[.string (strOfNums (esc 0 (nums s))), .bool true]) := escV_yes (by rw [HO]; simp [hl])
  have hl' : ((s[s.size - 1].toNat : Int) == 0) = false := by rw [beq_eq_false_iff_ne]; omega
  clear HO hl
  go_enter Tryd.func38, Tryd.ntmps38
  go_wp2_with (go_at_call 46; refine (specEsc s _ (by omega)).mono ?_; rintro e w1 ⟨rfl, hb1⟩)
  go_ret2
  rw [HV.out]
  exact ⟨rfl, hb1⟩

theorem row_below {W W' : World} {B e size n : Nat} {v : Value} {xs : List Value} (h : W.ownsRow B e size v n xs) (hb : Below W.heap.size W W') : W'.ownsRow B e size v n xs := by
  refine ⟨h.1, ?_⟩
  rcases h.2 with h2 | ⟨g, cap, cur, hv, hB, hg, r⟩
  · exact .inl h2
  · exact .inr ⟨g, cap, cur, hv, hB, (hb.block g (lt_of_block hg)).trans hg, r⟩
theorem une_round (s : ByteArray) (k : Nat) (E : List Int) (hE : E = une 0 ((nums s).take k)) (hlt : k < s.size) :
    une 0 ((nums s).take (k + 1)) = E ++ if (2 ≤ k ∧ (nums s).getD (k - 1) 7 = 0 ∧ (nums s).getD (k - 2) 7 = 0) ∧ (s[k].toNat : Int) = 3 then [] else [(s[k].toNat : Int)] := by
  rw [nums_take s k hlt, une_snoc, ← hE]
  have := tz_at ((nums s).take k)
  have hl : ((nums s).take k).length = k := by rw [List.length_take, nums_length]; omega
  rw [hl] at this
  have e1 : 2 ≤ k → ((nums s).take k).getD (k - 1) 7 = (nums s).getD (k - 1) 7 := fun h => by rw [List.getD, List.getD, List.getElem?_take, if_pos (by omega)]
  have e2 : 2 ≤ k → ((nums s).take k).getD (k - 2) 7 = (nums s).getD (k - 2) 7 := fun h => by rw [List.getD, List.getD, List.getElem?_take, if_pos (by omega)]
  by_cases h : 2 ≤ tz 0 ((nums s).take k)
  · have h' := this.1 h
    rw [e1 h'.1, e2 h'.1] at h'
    by_cases h4 : (s[k].toNat : Int) = 3
    · rw [if_pos ⟨h, h4⟩, if_pos ⟨h', h4⟩]
    · rw [if_neg (fun x => h4 x.2), if_neg (fun x => h4 x.2)]
  · rw [if_neg (fun x => h x.1), if_neg (fun x => h (this.2 (by rw [e1 x.1.1, e2 x.1.1]; exact x.1)))]

set_option maxHeartbeats 1600000 in
theorem specUnescaped (s : ByteArray) (w : World) (hs : s.size ≤ 1048576) :
    Calls Tryd.prog 28 #[.string s] w fun e w' => e = .returned (uneV s) ∧ Below w.heap.size w w' := by
  obtain ⟨i0, hi0, hz0, hz1, hz2⟩ := info_parts infoF
  by_cases hs1 : 120000 < s.size
  · have HV : Hid (uneV s = .tuple #[.string ⟨#[]⟩, .bool false]) := uneV_no (by
      cases h : uneOk (nums s)
      · rfl
      · have := uneOk_size h; rw [nums_length] at this; omega)
    go_enter Tryd.func28, Tryd.ntmps28
    go_wp2
    go_ret2
    rw [HV.out]
    exact ⟨rfl, Below.refl _ _⟩
  have hs3 : (s.size : Int) ≤ 120000 := by omega
  go_enter Tryd.func28, Tryd.ntmps28
  go_wp2
  go_loopw [4, 5] (fun v i wr => ∃ (k : Nat) (E : List Int), k ≤ s.size ∧ i = .int .i64 k ∧ Hid (E = une 0 ((nums s).take k)) ∧ wr.ownsRow w.heap.size 5 1 v E.length (E.map (Value.int .u8)) ∧ Below w.heap.size w wr)
    (fun _ i _ => s.size - (intOf i).toNat)
  case atStart => exact ⟨0, [], Nat.zero_le _, rfl, rfl, World.ownsRow_made w #[] 0 (Nat.le_refl _) (by unfold maxLen; omega) rfl, (Below.refl _ _).alloc (Nat.le_refl _) _⟩
  case round =>
    obtain ⟨k, E, hk, rfl, HE, hown, hb⟩ := hrel
    have hE : E.length ≤ k := by rw [HE.out]; have := une_length_le ((nums s).take k) 0; simp at this; omega
    have hbs := hb.size
    by_cases hlt : k < s.size
    · have hk0 : (0 : Int) ≤ (k : Int) := Int.natCast_nonneg _
      have hk1 : (k : Int) < (s.size : Int) := by omega
      have HES : Hid (une 0 ((nums s).take (k + 1)) = E ++ if (2 ≤ k ∧ (nums s).getD (k - 1) 7 = 0 ∧ (nums s).getD (k - 2) 7 = 0) ∧ (s[k].toNat : Int) = 3 then [] else [(s[k].toNat : Int)]) := une_round s k E HE.out hlt
      clear HE
      by_cases h2 : k < 2
      · have HE1 : Hid (une 0 ((nums s).take (k + 1)) = E ++ [(s[k].toNat : Int)]) := by have := HES.out; rw [if_neg (by omega)] at this; exact this
        clear HES
        go_wp2_with (at_builtin; refine wpList_append_lies _ (by rfl) _ _ 22 (by rfl) w.heap.size 5 i0 (.int .u8 0) 1 1 Tryd.underlying22 hi0 hz0 hz1 hz2 rfl (by omega) _ E.length _ (by rfl) (hown.alloc _) ⟨wr.heap.size, 0, none⟩ 1 1 [.int .u8 (s[k].toNat : Int)] (by rfl) (by rfl) (World.news_of_block (cs := #[.int .u8 (s[k].toNat : Int)]) (t := 5) (fr := (0, 0)) (heap_alloc_new wr _)) (by simp [Value.oneCell']) (by omega) (by unfold maxLen; omega) (by omega) (by simp <;> omega) (wr.heap.size + 1) (by simp) ?_; intro gg3 cap3 w3 hown4 hgrow hat hlt2; have hown5 : w3.ownsRow w.heap.size 5 1 (.slice (some ⟨gg3, 0, none⟩) (E.length + 1) cap3) (E.length + 1) ((E ++ [(s[k].toNat : Int)]).map (Value.int .u8)) := (by simpa using hown4); have hb3 := (hb.alloc hbs _).grown hgrow (by simp <;> omega) (fun j hj => (hown.lt j hj).1); clear hown4 hgrow hat hlt2 hown hb)
        go_roundw
        case rel => exact ⟨k + 1, E ++ [(s[k].toNat : Int)], by omega, by go_num, HE1.out.symm, own_len hown5 (by simp), hb3⟩
        case measure => simp [intOf]; omega
      have h2' : (2 : Int) ≤ (k : Int) := by omega
      have hk2 : k - 1 < s.size := by omega
      have hk3 : k - 2 < s.size := by omega
      rw [nums_getD s (k - 1) 7 hk2, nums_getD s (k - 2) 7 hk3] at HES
      by_cases hx : (s[k].toNat : Int) = 3
      case neg =>
        have hx' : ((s[k].toNat : Int) == 3) = false := by rw [beq_eq_false_iff_ne]; exact hx
        have HE1 : Hid (une 0 ((nums s).take (k + 1)) = E ++ [(s[k].toNat : Int)]) := by have := HES.out; rw [if_neg (fun x => hx x.2)] at this; exact this
        clear HES
        go_wp2_with (at_builtin; refine wpList_append_lies _ (by rfl) _ _ 22 (by rfl) w.heap.size 5 i0 (.int .u8 0) 1 1 Tryd.underlying22 hi0 hz0 hz1 hz2 rfl (by omega) _ E.length _ (by rfl) (hown.alloc _) ⟨wr.heap.size, 0, none⟩ 1 1 [.int .u8 (s[k].toNat : Int)] (by rfl) (by rfl) (World.news_of_block (cs := #[.int .u8 (s[k].toNat : Int)]) (t := 5) (fr := (0, 0)) (heap_alloc_new wr _)) (by simp [Value.oneCell']) (by omega) (by unfold maxLen; omega) (by omega) (by simp <;> omega) (wr.heap.size + 1) (by simp) ?_; intro gg3 cap3 w3 hown4 hgrow hat hlt2; have hown5 : w3.ownsRow w.heap.size 5 1 (.slice (some ⟨gg3, 0, none⟩) (E.length + 1) cap3) (E.length + 1) ((E ++ [(s[k].toNat : Int)]).map (Value.int .u8)) := (by simpa using hown4); have hb3 := (hb.alloc hbs _).grown hgrow (by simp <;> omega) (fun j hj => (hown.lt j hj).1); clear hown4 hgrow hat hlt2 hown hb)
        go_roundw
        case rel => exact ⟨k + 1, E ++ [(s[k].toNat : Int)], by omega, by go_num, HE1.out.symm, own_len hown5 (by simp), hb3⟩
        case measure => simp [intOf]; omega
      have hx' : ((s[k].toNat : Int) == 3) = true := by rw [hx]; rfl
      by_cases ha : (s[k - 1].toNat : Int) = 0
      case neg =>
        have ha' : ((s[k - 1].toNat : Int) == 0) = false := by rw [beq_eq_false_iff_ne]; exact ha
        have HE1 : Hid (une 0 ((nums s).take (k + 1)) = E ++ [3]) := by have := HES.out; rw [if_neg (fun x => ha x.1.2.1), hx] at this; exact this
        clear HES
        go_wp2_with (at_builtin; refine wpList_append_lies _ (by rfl) _ _ 22 (by rfl) w.heap.size 5 i0 (.int .u8 0) 1 1 Tryd.underlying22 hi0 hz0 hz1 hz2 rfl (by omega) _ E.length _ (by rfl) (hown.alloc _) ⟨wr.heap.size, 0, none⟩ 1 1 [.int .u8 3] (by rfl) (by rfl) (World.news_of_block (cs := #[.int .u8 3]) (t := 5) (fr := (0, 0)) (heap_alloc_new wr _)) (by simp [Value.oneCell']) (by omega) (by unfold maxLen; omega) (by omega) (by simp <;> omega) (wr.heap.size + 1) (by simp) ?_; intro gg3 cap3 w3 hown4 hgrow hat hlt2; have hown5 : w3.ownsRow w.heap.size 5 1 (.slice (some ⟨gg3, 0, none⟩) (E.length + 1) cap3) (E.length + 1) ((E ++ [3]).map (Value.int .u8)) := (by simpa using hown4); have hb3 := (hb.alloc hbs _).grown hgrow (by simp <;> omega) (fun j hj => (hown.lt j hj).1); clear hown4 hgrow hat hlt2 hown hb)
        go_roundw
        case rel => exact ⟨k + 1, E ++ [3], by omega, by go_num, HE1.out.symm, own_len hown5 (by simp), hb3⟩
        case measure => simp [intOf]; omega
      have ha' : ((s[k - 1].toNat : Int) == 0) = true := by rw [ha]; rfl
      by_cases hl : (s[k - 2].toNat : Int) = 0
      case neg =>
        have hl' : ((s[k - 2].toNat : Int) == 0) = false := by rw [beq_eq_false_iff_ne]; exact hl
        have HE1 : Hid (une 0 ((nums s).take (k + 1)) = E ++ [3]) := by have := HES.out; rw [if_neg (fun x => hl x.1.2.2), hx] at this; exact this
        clear HES
        go_wp2_with (at_builtin; refine wpList_append_lies _ (by rfl) _ _ 22 (by rfl) w.heap.size 5 i0 (.int .u8 0) 1 1 Tryd.underlying22 hi0 hz0 hz1 hz2 rfl (by omega) _ E.length _ (by rfl) (hown.alloc _) ⟨wr.heap.size, 0, none⟩ 1 1 [.int .u8 3] (by rfl) (by rfl) (World.news_of_block (cs := #[.int .u8 3]) (t := 5) (fr := (0, 0)) (heap_alloc_new wr _)) (by simp [Value.oneCell']) (by omega) (by unfold maxLen; omega) (by omega) (by simp <;> omega) (wr.heap.size + 1) (by simp) ?_; intro gg3 cap3 w3 hown4 hgrow hat hlt2; have hown5 : w3.ownsRow w.heap.size 5 1 (.slice (some ⟨gg3, 0, none⟩) (E.length + 1) cap3) (E.length + 1) ((E ++ [3]).map (Value.int .u8)) := (by simpa using hown4); have hb3 := (hb.alloc hbs _).grown hgrow (by simp <;> omega) (fun j hj => (hown.lt j hj).1); clear hown4 hgrow hat hlt2 hown hb)
        go_roundw
        case rel => exact ⟨k + 1, E ++ [3], by omega, by go_num, HE1.out.symm, own_len hown5 (by simp), hb3⟩
        case measure => simp [intOf]; omega
      have hl' : ((s[k - 2].toNat : Int) == 0) = true := by rw [hl]; rfl
      have HE1 : Hid (une 0 ((nums s).take (k + 1)) = E) := by have := HES.out; rw [if_pos ⟨⟨by omega, ha, hl⟩, hx⟩, List.append_nil] at this; exact this
      clear HES hx ha hl
      go_wp2
      go_roundw
      case rel => exact ⟨k + 1, E, by omega, by go_num, HE1.out.symm, hown, hb⟩
      case measure => simp [intOf]; omega
    · obtain rfl : k = s.size := by omega
      have HE1 : Hid (E = une 0 (nums s)) := by have := HE.out; rw [List.take_of_length_le (by rw [nums_length]; omega)] at this; exact this
      have hconv := convF hown
      obtain ⟨p, HP⟩ : ∃ p, Hid (p = strOfNums E) := ⟨_, rfl⟩
      have hp : nums p = une 0 (nums s) := by rw [HP.out, HE1.out]; exact nums_une s
      rw [← HP.out] at hconv
      rcases une_cases s p hp with ⟨h1, h2⟩ | ⟨h1, h3, h2⟩ | ⟨h1, h3, h2⟩
      · have HV : Hid (uneV s = .tuple #[.string ⟨#[]⟩, .bool false]) := uneV_no h2
        have he : ∀ w, Calls Tryd.prog 38 #[.string p] w fun e w' => e = .returned (.tuple #[.string ⟨#[]⟩, .bool false]) ∧ Below w.heap.size w w' := fun w => by rw [← escV_no h1]; exact specEscaped p w
        clear h1 h2 HP hp
        go_wp2_with (go_at_call 38; refine (he _).mono ?_; rintro e w2 ⟨rfl, hb2⟩)
        go_ret2
        rw [HV.out]
        exact ⟨rfl, hb.trans (hb2.mono hb.size)⟩
      · have HV : Hid (uneV s = .tuple #[.string ⟨#[]⟩, .bool false]) := uneV_no h2
        have he : ∀ w, Calls Tryd.prog 38 #[.string p] w fun e w' => e = .returned (.tuple #[.string (strOfNums (esc 0 (nums p))), .bool true]) ∧ Below w.heap.size w w' := fun w => by rw [← escV_yes h1]; exact specEscaped p w
        clear h1 h2 HP hp
        go_wp2_with (go_at_call 38; refine (he _).mono ?_; rintro e w2 ⟨rfl, hb2⟩)
        go_ret2
        rw [HV.out]
        exact ⟨rfl, hb.trans (hb2.mono hb.size)⟩
      · have HV : Hid (uneV s = .tuple #[.string p, .bool true]) := by show _ = _; rw [HP.out, HE1.out]; exact uneV_yes h2
        have he : ∀ w, Calls Tryd.prog 38 #[.string p] w fun e w' => e = .returned (.tuple #[.string (strOfNums (esc 0 (nums p))), .bool true]) ∧ Below w.heap.size w w' := fun w => by rw [← escV_yes h1]; exact specEscaped p w
        clear h1 h2 hp
        go_wp2_with (go_at_call 38; refine (he _).mono ?_; rintro e w2 ⟨rfl, hb2⟩; have hown2 := row_below hown hb2; have hconv2 := convF hown2; rw [← HP.out] at hconv2)
        go_ret2
        rw [HV.out]
        exact ⟨rfl, hb.trans (hb2.mono hb.size)⟩
end Go.Proofs.YtabpdiekmljceaaDoor
