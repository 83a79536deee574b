/-
  The walks of impl.withoutGuards and impl.Unescaped.
-/
import Derived.Test.YtabpdiekmljceaaDoorUnitImpl
namespace Go.Proofs.YtabpdiekmljceaaDoor
open Go.RowKit
set_option linter.unusedVariables false
attribute [local go_sem ↓] Go.wp_at_zero Go.wp_at_succ

set_option maxHeartbeats 1600000 in
theorem implWithout (s : ByteArray) (w : World) (hs : s.size ≤ 1048576) :
    Calls Tryd.prog 33 #[.string s] w fun e w' => e = .returned (.string (strOfNums (une 0 (nums s)))) ∧ Below w.heap.size w w' := by
  obtain ⟨i0, hi0, hz0, hz1, hz2⟩ := info_parts infoF
  have hs3 : (s.size : Int) ≤ 1048576 := by omega
  go_enter Tryd.func33, Tryd.ntmps33
  go_wp2_with (first
    | (at_make; refine wpList_make_own _ rfl _ _ 22 rfl w.heap.size 5 i0 (.int .u8 0) 1 Tryd.underlying22 hi0 hz0 hz1 .i64 .i64 _ s.size rfl rfl (by omega) (by rw [hz2]; omega) (by unfold maxLen; omega) (Nat.le_refl _) ?_; intro w1 hown0 hgrow0)
    | (go_at_call 31; refine (putLast_any _).mono ?_; rintro e w2 ⟨rfl, hc0, hgrow1⟩))
  have hb0 : Below w.heap.size w w2 := ((Below.refl _ _).grown hgrow0 (Nat.le_refl _) (fun j hj => by cases hj)).grown hgrow1 hgrow0.size (fun j hj => by cases hj)
  have hownA := hown0.kept hgrow1 (.inr (by simp [Value.ownBlock]))
  have hB : w.heap.size ≤ w1.heap.size := hgrow0.size
  generalize w1.heap.size = B at *
  clear hgrow0 hgrow1 hown0 w1
  go_loopw [3, 5, 14] (fun v q i wr => ∃ (k z : Nat) (E : List Int) (b : Bool), k ≤ s.size ∧ i = .int .i64 k ∧ q = .bool b ∧ Hid (E = une 0 ((nums s).take k)) ∧ Hid (z = tz 0 ((nums s).take k)) ∧ Hid (b = decide (2 ≤ z)) ∧ wr.ownsRow w.heap.size 5 1 v E.length (E.map (Value.int .u8)) ∧ Cnt wr B z ∧ Below w.heap.size w wr)
    (fun _ _ i _ => s.size - (intOf i).toNat)
  case atStart => exact ⟨0, 0, [], false, Nat.zero_le _, rfl, rfl, rfl, rfl, rfl, hownA, hc0, hb0⟩
  case round =>
    obtain ⟨k, z, E, q, hk, rfl, rfl, HE, HZ, HQ, hown, hcnt, hb⟩ := hrel
    clear hownA hc0 hb0
    have hE : E.length ≤ k := by rw [HE.out]; have := une_length_le ((nums s).take k) 0; simp at this; omega
    have hz : (z : Int) ≤ 1048576 := by rw [HZ.out]; have := tz_le ((nums s).take k) 0; simp at this; omega
    have hbs := hb.size
    by_cases hlt : k < s.size
    · have h255 : (s[k].toNat : Int) ≤ 255 := by have := UInt8.toNat_lt s[k]; omega
      have h0 : (0 : Int) ≤ (s[k].toNat : Int) := Int.natCast_nonneg _
      have hk0 : (0 : Int) ≤ (k : Int) := Int.natCast_nonneg _
      have hk1 : (k : Int) < (s.size : Int) := by omega
      have HES : Hid (une 0 ((nums s).take (k + 1)) = E ++ if 2 ≤ z ∧ (s[k].toNat : Int) = 3 then [] else [(s[k].toNat : Int)]) := by
        show _ = _
        rw [nums_take s k hlt, une_snoc, HE.out, HZ.out]
      have HZ1 : Hid (tz 0 ((nums s).take (k + 1)) = nx z s[k].toNat) := by
        show _ = _
        rw [nums_take s k hlt, tz_snoc, HZ.out]
      clear HE HZ
      by_cases hg : 2 ≤ z ∧ (s[k].toNat : Int) = 3
      · have HE1 : Hid (une 0 ((nums s).take (k + 1)) = E) := by have := HES.out; rw [if_pos hg, List.append_nil] at this; exact this
        have hq : q = true := by rw [HQ.out]; exact decide_eq_true hg.1
        have hg2 : ((s[k].toNat : Int) != 3) = false := by rw [hg.2]; rfl
        subst hq
        clear HES HQ hg
        go_wp2_with (go_at_call 39; refine (put_any B z _ _ hcnt (by omega) h0 h255).mono ?_; rintro e w4 ⟨rfl, hcnt4, hgr4⟩)
        have hown6 := hown.kept hgr4 (.inr (hcnt.apart hown (by decide)))
        have hb4 := hb.grown hgr4 hbs (fun j hj => by cases hj; exact hB)
        clear hown hgr4 hb hcnt
        go_roundw
        case rel => exact ⟨k + 1, _, E, _, by omega, by go_num, rfl, HE1.out.symm, HZ1.out.symm, rfl, hown6, hcnt4, hb4⟩
        case measure => simp [intOf]; omega
      · have HE1 : Hid (une 0 ((nums s).take (k + 1)) = E ++ [(s[k].toNat : Int)]) := by have := HES.out; rw [if_neg hg] at this; exact this
        have hq : q = false ∨ (q = true ∧ ((s[k].toNat : Int) != 3) = true) := by
          cases q
          · exact .inl rfl
          · exact .inr ⟨rfl, bne_iff_ne.2 fun h => hg ⟨of_decide_eq_true HQ.out.symm, h⟩⟩
        clear HES HQ hg
        rcases hq with rfl | ⟨rfl, hg2⟩
        all_goals
          go_wp2_with (first
            | (at_builtin; refine wpList_append_lies _ (by rfl) _ _ 22 (by rfl) w.heap.size 5 i0 (.int .u8 0) 1 1 Tryd.underlying22 hi0 hz0 hz1 hz2 rfl (by omega) u3 E.length _ (by rfl) (hown.alloc _) ⟨wr.heap.size, 0, none⟩ 1 1 [.int .u8 (s[k].toNat : Int)] (by rfl) (by rfl) (World.news_of_block (cs := #[.int .u8 (s[k].toNat : Int)]) (t := 5) (fr := (0, 0)) (heap_alloc_new wr _)) (by simp [Value.oneCell']) (by omega) (by unfold maxLen; omega) (by omega) (by simp <;> omega) (wr.heap.size + 1) (by simp) ?_; intro gg3 cap3 w3 hown4 hgrow hat hlt2; have R1 := cnt_app hcnt hown (by decide) hb hbs hgrow; have hown5 : w3.ownsRow w.heap.size 5 1 (.slice (some ⟨gg3, 0, none⟩) (E.length + 1) cap3) (E.length + 1) ((E ++ [(s[k].toNat : Int)]).map (Value.int .u8)) := (by simpa using hown4); clear hown4 hgrow hat hlt2 hown hb hcnt; have hb3 := R1.2; have hcnt3 := R1.1; have hbs3 := hb3.size; clear R1)
            | (go_at_call 39; refine (put_any B z _ _ hcnt3 (by omega) h0 h255).mono ?_; rintro e w4 ⟨rfl, hcnt4, hgr4⟩; have hown6 := hown5.kept hgr4 (.inr (hcnt3.apart hown5 (by decide))); have hb4 := hb3.grown hgr4 hbs3 (fun j hj => by cases hj; exact hB); clear hown5 hgr4 hb3 hcnt3))
          go_roundw
          case rel => exact ⟨k + 1, _, E ++ [(s[k].toNat : Int)], _, by omega, by go_num, rfl, HE1.out.symm, HZ1.out.symm, rfl, own_len hown6 (by simp), hcnt4, hb4⟩
          case measure => simp [intOf]; omega
    · obtain rfl : k = s.size := by omega
      have HE1 : Hid (E = une 0 (nums s)) := by have := HE.out; rw [List.take_of_length_le (by rw [nums_length]; omega)] at this; exact this
      have hconv := convF hown
      go_wp2
      go_ret
      rw [← HE1.out]
      exact ⟨rfl, hb⟩

def uneV (s : ByteArray) : Value := if uneOk (nums s) then .tuple #[.string (strOfNums (une 0 (nums s))), .bool true] else .tuple #[.string ⟨#[]⟩, .bool false]
theorem uneV_no {s : ByteArray} (h : uneOk (nums s) = false) : uneV s = .tuple #[.string ⟨#[]⟩, .bool false] := by unfold uneV; rw [h]; rfl
theorem uneV_yes {s : ByteArray} (h : uneOk (nums s) = true) : uneV s = .tuple #[.string (strOfNums (une 0 (nums s))), .bool true] := by unfold uneV; rw [h]; rfl
theorem nums_une (s : ByteArray) : nums (strOfNums (une 0 (nums s))) = une 0 (nums s) := nums_of _ (une_bd _ _ (nums_bd s))
theorem txt_inj {s t : ByteArray} (h : s.toList = t.toList) : s = t := by
  rw [Go.ByteArray.toList_eq, Go.ByteArray.toList_eq] at h
  exact ByteArray.ext (Array.ext' h)
/-- What the comparison of what is put anew with the text tells. -/
theorem une_cases (s p : ByteArray) (hp : nums p = une 0 (nums s)) :
    (escOk (nums p) = false ∧ uneOk (nums s) = false) ∨ (escOk (nums p) = true ∧ ((strOfNums (esc 0 (nums p))).toList == s.toList) = false ∧ uneOk (nums s) = false) ∨
    (escOk (nums p) = true ∧ ((strOfNums (esc 0 (nums p))).toList == s.toList) = true ∧ uneOk (nums s) = true) := by
  unfold uneOk
  rw [← hp]
  cases h : escOk (nums p)
  · left; exact ⟨rfl, rfl⟩
  · right
    have hb : ∀ x ∈ esc 0 (nums p), 0 ≤ x ∧ x ≤ 255 := esc_bd _ _ (nums_bd p)
    by_cases he : esc 0 (nums p) = nums s
    · right
      refine ⟨rfl, ?_, by simp [he]⟩
      rw [he, of_nums]
      simp
    · left
      refine ⟨rfl, beq_eq_false_iff_ne.2 fun h' => he ?_, by simp [he]⟩
      rw [← nums_of _ hb, txt_inj h']

set_option maxHeartbeats 800000 in
theorem implUnescaped (s : ByteArray) (w : World) (hs : s.size ≤ 1048576) :
    Calls Tryd.prog 24 #[.string s] w fun e w' => e = .returned (uneV s) ∧ Below w.heap.size w w' := by
  obtain ⟨p, HP⟩ : ∃ p, Hid (p = strOfNums (une 0 (nums s))) := ⟨_, rfl⟩
  have hp : nums p = une 0 (nums s) := by rw [HP.out]; exact nums_une s
  have hw : Calls Tryd.prog 33 #[.string s] w fun e w' => e = .returned (.string p) ∧ Below w.heap.size w w' := by rw [HP.out]; exact implWithout s w hs
  rcases une_cases s p hp with ⟨h1, h2⟩ | ⟨h1, h3, h2⟩ | ⟨h1, h3, h2⟩
  · have HV : Hid (uneV s = .tuple #[.string ⟨#[]⟩, .bool false]) := uneV_no h2
    have he : ∀ w, Calls Tryd.prog 22 #[.string p] w fun e w' => e = .returned (.tuple #[.string ⟨#[]⟩, .bool false]) ∧ Below w.heap.size w w' := fun w => by rw [← escV_no h1]; exact implEscaped p w
    clear h1 h2 HP hp
    go_enter Tryd.func24, Tryd.ntmps24
    go_wp2_with (first
      | (go_at_call 33; refine hw.mono ?_; rintro e w1 ⟨rfl, hb1⟩)
      | (go_at_call 22; refine (he w1).mono ?_; rintro e w2 ⟨rfl, hb2⟩))
    go_ret2
    rw [HV.out]
    exact ⟨rfl, hb1.trans (hb2.mono hb1.size)⟩
  · have HV : Hid (uneV s = .tuple #[.string ⟨#[]⟩, .bool false]) := uneV_no h2
    have he : ∀ w, Calls Tryd.prog 22 #[.string p] w fun e w' => e = .returned (.tuple #[.string (strOfNums (esc 0 (nums p))), .bool true]) ∧ Below w.heap.size w w' := fun w => by rw [← escV_yes h1]; exact implEscaped p w
    clear h1 h2 HP hp
    go_enter Tryd.func24, Tryd.ntmps24
    go_wp2_with (first
      | (go_at_call 33; refine hw.mono ?_; rintro e w1 ⟨rfl, hb1⟩)
      | (go_at_call 22; refine (he w1).mono ?_; rintro e w2 ⟨rfl, hb2⟩))
    go_ret2
    rw [HV.out]
    exact ⟨rfl, hb1.trans (hb2.mono hb1.size)⟩
  · have HV : Hid (uneV s = .tuple #[.string p, .bool true]) := by show _ = _; rw [HP.out]; exact uneV_yes h2
    have he : ∀ w, Calls Tryd.prog 22 #[.string p] w fun e w' => e = .returned (.tuple #[.string (strOfNums (esc 0 (nums p))), .bool true]) ∧ Below w.heap.size w w' := fun w => by rw [← escV_yes h1]; exact implEscaped p w
    clear h1 h2 HP hp
    go_enter Tryd.func24, Tryd.ntmps24
    go_wp2_with (first
      | (go_at_call 33; refine hw.mono ?_; rintro e w1 ⟨rfl, hb1⟩)
      | (go_at_call 22; refine (he w1).mono ?_; rintro e w2 ⟨rfl, hb2⟩))
    go_ret2
    rw [HV.out]
    exact ⟨rfl, hb1.trans (hb2.mono hb1.size)⟩
end Go.Proofs.YtabpdiekmljceaaDoor
