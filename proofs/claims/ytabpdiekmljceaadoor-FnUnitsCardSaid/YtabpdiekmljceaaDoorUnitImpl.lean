/-
  The walks of impl.Escaped, impl.withoutGuards and impl.Unescaped.
-/
import Derived.Test.YtabpdiekmljceaaDoorUnitKit
namespace Go.Proofs.YtabpdiekmljceaaDoor
open Go.RowKit
set_option linter.unusedVariables false
attribute [local go_sem ↓] Go.wp_at_zero Go.wp_at_succ

theorem nums_at (s : ByteArray) (k : Nat) (h : k < s.size) : (nums s)[k]'(by rw [nums_length]; exact h) = (s[k].toNat : Int) := by
  simp [nums]; rfl
theorem nums_take (s : ByteArray) (k : Nat) (h : k < s.size) : (nums s).take (k + 1) = (nums s).take k ++ [(s[k].toNat : Int)] := by
  rw [List.take_succ_eq_append_getElem (by rw [nums_length]; exact h), nums_at s k h]
theorem nums_getD (s : ByteArray) (k : Nat) (d : Int) (h : k < s.size) : (nums s).getD k d = (s[k].toNat : Int) := by
  rw [List.getD, List.getElem?_eq_getElem (by rw [nums_length]; exact h), nums_at s k h]; rfl
def escV (s : ByteArray) : Value := if escOk (nums s) then .tuple #[.string (strOfNums (esc 0 (nums s))), .bool true] else .tuple #[.string ⟨#[]⟩, .bool false]
theorem escOk_at (s : ByteArray) (h1 : 0 < s.size) (h2 : s.size ≤ 60000) : escOk (nums s) = decide (¬ s[s.size - 1].toNat = 0) := by
  unfold escOk
  rw [nums_length, nums_getD s _ 0 (by omega)]
  apply decide_eq_decide.2
  constructor
  · rintro ⟨_, _, h⟩; omega
  · intro h; exact ⟨by omega, by omega, by omega⟩
theorem escV_no {s : ByteArray} (h : escOk (nums s) = false) : escV s = .tuple #[.string ⟨#[]⟩, .bool false] := by unfold escV; rw [h]; rfl
theorem escV_yes {s : ByteArray} (h : escOk (nums s) = true) : escV s = .tuple #[.string (strOfNums (esc 0 (nums s))), .bool true] := by unfold escV; rw [h]; rfl
theorem escOk_none {s : ByteArray} (h : s.size = 0) : escOk (nums s) = false := by unfold escOk; rw [nums_length]; simp; omega
theorem escOk_long {s : ByteArray} (h : 60000 < s.size) : escOk (nums s) = false := by unfold escOk; rw [nums_length]; simp; omega

theorem own_len {w : World} {base e n m : Nat} {v : Value} {xs : List Value} (h : w.ownsRow base e 1 v n xs) (hm : n = m) : w.ownsRow base e 1 v m xs := hm ▸ h

set_option maxHeartbeats 1600000 in
theorem implEscaped (s : ByteArray) (w : World) :
    Calls Tryd.prog 22 #[.string s] w fun e w' => e = .returned (escV s) ∧ Below w.heap.size w w' := by
  obtain ⟨i0, hi0, hz0, hz1, hz2⟩ := info_parts infoF
  by_cases hs0 : s.size = 0
  · have H := escV_no (escOk_none hs0)
    have HV : Hid (escV s = .tuple #[.string ⟨#[]⟩, .bool false]) := H
    have hs0' : ((s.size : Int) == 0) = true := by rw [hs0]; rfl
    clear H
    go_enter Tryd.func22, Tryd.ntmps22
    go_wp2
    go_ret2
    rw [HV.out]
    exact ⟨rfl, Below.refl _ _⟩
  by_cases hs1 : 60000 < s.size
  · have HV : Hid (escV s = .tuple #[.string ⟨#[]⟩, .bool false]) := escV_no (escOk_long hs1)
    have hs0' : ((s.size : Int) == 0) = false := by rw [beq_eq_false_iff_ne]; omega
    go_enter Tryd.func22, Tryd.ntmps22
    go_wp2
    go_ret2
    rw [HV.out]
    exact ⟨rfl, Below.refl _ _⟩
  have hs0' : ((s.size : Int) == 0) = false := by rw [beq_eq_false_iff_ne]; omega
  have hs2 : (1 : Int) ≤ (s.size : Int) := by omega
  have hs3 : (s.size : Int) ≤ 60000 := by omega
  have hsz : s.size - 1 < s.size := by omega
  have HO := escOk_at s (by omega) (by omega)
  by_cases hl : s[s.size - 1].toNat = 0
  · have HV : Hid (escV s = .tuple #[.string ⟨#[]⟩, .bool false]) := escV_no (by rw [HO]; simp [hl])
    have hl' : ((s[s.size - 1].toNat : Int) == 0) = true := by rw [hl]; rfl
    clear HO
    go_enter Tryd.func22, Tryd.ntmps22
    go_wp2
    go_ret2
    rw [HV.out]
    exact ⟨rfl, Below.refl _ _⟩
  have HV : Hid (escV s = .tuple #[.string (strOfNums (esc 0 (nums s))), .bool true]) := escV_yes (by rw [HO]; simp [hl])
  have hl' : ((s[s.size - 1].toNat : Int) == 0) = false := by rw [beq_eq_false_iff_ne]; omega
  clear HO hl
  go_enter Tryd.func22, Tryd.ntmps22
  go_wp2_with (first
    | (at_make; refine wpList_make_own _ rfl _ _ 22 rfl w.heap.size 5 i0 (.int .u8 0) 1 Tryd.underlying22 hi0 hz0 hz1 .i64 .i64 _ s.size rfl rfl (by omega) (by rw [hz2]; omega) (by unfold maxLen; omega) (Nat.le_refl _) ?_; intro w1 hown0 hgrow0)
    | (go_at_call 31; refine (putLast_any _).mono ?_; rintro e w2 ⟨rfl, hc0, hgrow1⟩))
  have hb0 : Below w.heap.size w w2 := ((Below.refl _ _).grown hgrow0 (Nat.le_refl _) (fun j hj => by cases hj)).grown hgrow1 hgrow0.size (fun j hj => by cases hj)
  have hownA := hown0.kept hgrow1 (.inr (by simp [Value.ownBlock]))
  have hB : w.heap.size ≤ w1.heap.size := hgrow0.size
  generalize w1.heap.size = B at *
  clear hgrow0 hgrow1 hown0 w1
  go_loopw [4, 6, 31] (fun v q i wr => ∃ (k z : Nat) (E : List Int) (b : Bool), k ≤ s.size ∧ i = .int .i64 k ∧ q = .bool b ∧ Hid (E = esc 0 ((nums s).take k)) ∧ Hid (z = zs 0 ((nums s).take k)) ∧ Hid (b = decide (2 ≤ z)) ∧ wr.ownsRow w.heap.size 5 1 v E.length (E.map (Value.int .u8)) ∧ Cnt wr B z ∧ Below w.heap.size w wr)
    (fun _ _ i _ => s.size - (intOf i).toNat)
  case atStart => exact ⟨0, 0, [], false, Nat.zero_le _, rfl, rfl, rfl, rfl, rfl, hownA, hc0, hb0⟩
  case round =>
    obtain ⟨k, z, E, q, hk, rfl, rfl, HE, HZ, HQ, hown, hcnt, hb⟩ := hrel
    clear hownA hc0 hb0
    have hE : E.length ≤ 2 * k := by rw [HE.out]; have := esc_length_le ((nums s).take k) 0; simp at this; omega
    have hz : (z : Int) ≤ 60000 := by rw [HZ.out]; have := zs_le ((nums s).take k) 0; simp at this; omega
    have hbs := hb.size
    by_cases hlt : k < s.size
    · have h255 : (s[k].toNat : Int) ≤ 255 := by have := UInt8.toNat_lt s[k]; omega
      have h0 : (0 : Int) ≤ (s[k].toNat : Int) := Int.natCast_nonneg _
      have hk0 : (0 : Int) ≤ (k : Int) := Int.natCast_nonneg _
      have hk1 : (k : Int) < (s.size : Int) := by omega
      have HES : Hid (esc 0 ((nums s).take (k + 1)) = E ++ if 2 ≤ z ∧ (s[k].toNat : Int) < 4 then [3, (s[k].toNat : Int)] else [(s[k].toNat : Int)]) := by
        show _ = _
        rw [nums_take s k hlt, esc_snoc, HE.out, HZ.out]
      have HZS : Hid (zs 0 ((nums s).take (k + 1)) = if 2 ≤ z ∧ (s[k].toNat : Int) < 4 then nx 0 s[k].toNat else nx z s[k].toNat) := by
        show _ = _
        rw [nums_take s k hlt, zs_snoc, HZ.out]
      clear HE HZ
      by_cases hg : 2 ≤ z ∧ (s[k].toNat : Int) < 4
      · have HE1 : Hid (esc 0 ((nums s).take (k + 1)) = E ++ [3, (s[k].toNat : Int)]) := by have := HES.out; rw [if_pos hg] at this; exact this
        have HZ1 : Hid (zs 0 ((nums s).take (k + 1)) = nx 0 s[k].toNat) := by have := HZS.out; rw [if_pos hg] at this; exact this
        have hq : q = true := by rw [HQ.out]; exact decide_eq_true hg.1
        have hg2 := hg.2
        subst hq
        clear HES HZS HQ hg
        have HN0 : Hid (nx z 3 = 0) := rfl
        go_wp2_with (first
          | (at_builtin; refine wpList_append_lies _ (by rfl) _ _ 22 (by rfl) w.heap.size 5 i0 (.int .u8 0) 1 1 Tryd.underlying22 hi0 hz0 hz1 hz2 rfl (by omega) u4 E.length _ (by rfl) (hown.alloc _) ⟨wr.heap.size, 0, none⟩ 1 1 [.int .u8 3] (by rfl) (by rfl) (World.news_of_block (cs := #[.int .u8 3]) (t := 5) (fr := (0, 0)) (heap_alloc_new wr _)) (by simp [Value.oneCell']) (by omega) (by unfold maxLen; omega) (by omega) (by simp <;> omega) (wr.heap.size + 1) (by simp) ?_; intro gg cap w1 hown1 hgrow hat hlt2; have R1 := cnt_app hcnt hown (by decide) hb hbs hgrow; have hown2 : w1.ownsRow w.heap.size 5 1 (.slice (some ⟨gg, 0, none⟩) (E.length + 1) cap) (E.length + 1) ((E ++ [3]).map (Value.int .u8)) := (by simpa using hown1); clear hown1 hgrow hat hlt2 hown hb hcnt; have hb1 := R1.2; have hcnt1 := R1.1; have hbs1 := hb1.size; clear R1)
          | (go_at_call 39; refine (put_any B z 3 _ hcnt1 (by omega) (by omega) (by omega)).mono ?_; rintro e w2 ⟨rfl, hcnt2, hgr2⟩; rw [HN0.out] at hcnt2; have hown3 := hown2.kept hgr2 (.inr (hcnt1.apart hown2 (by decide))); have hb2 := hb1.grown hgr2 hbs1 (fun j hj => by cases hj; exact hB); have hbs2 := hb2.size; clear hown2 hgr2 hb1 hcnt1)
          | (at_builtin; refine wpList_append_lies _ (by rfl) _ _ 22 (by rfl) w.heap.size 5 i0 (.int .u8 0) 1 1 Tryd.underlying22 hi0 hz0 hz1 hz2 rfl (by omega) _ (E.length + 1) _ (by rfl) (hown3.alloc _) ⟨w2.heap.size, 0, none⟩ 1 1 [.int .u8 (s[k].toNat : Int)] (by rfl) (by rfl) (World.news_of_block (cs := #[.int .u8 (s[k].toNat : Int)]) (t := 5) (fr := (0, 0)) (heap_alloc_new w2 _)) (by simp [Value.oneCell']) (by omega) (by unfold maxLen; omega) (by omega) (by simp <;> omega) (w2.heap.size + 1) (by simp) ?_; intro gg3 cap3 w3 hown4 hgrow hat hlt2; have R1 := cnt_app hcnt2 hown3 (by decide) hb2 hbs2 hgrow; have hown5 : w3.ownsRow w.heap.size 5 1 (.slice (some ⟨gg3, 0, none⟩) (E.length + 1 + 1) cap3) (E.length + 1 + 1) ((E ++ [3, (s[k].toNat : Int)]).map (Value.int .u8)) := (by simpa using hown4); clear hown4 hgrow hat hlt2 hown3 hb2 hcnt2; have hb3 := R1.2; have hcnt3 := R1.1; have hbs3 := hb3.size; clear R1)
          | (go_at_call 39; refine (put_any B 0 _ _ hcnt3 (by omega) h0 h255).mono ?_; rintro e w4 ⟨rfl, hcnt4, hgr4⟩; have hown6 := hown5.kept hgr4 (.inr (hcnt3.apart hown5 (by decide))); have hb4 := hb3.grown hgr4 hbs3 (fun j hj => by cases hj; exact hB); clear hown5 hgr4 hb3 hcnt3))
        go_roundw
        case rel => exact ⟨k + 1, _, E ++ [3, (s[k].toNat : Int)], _, by omega, by go_num, rfl, HE1.out.symm, HZ1.out.symm, rfl, own_len hown6 (by simp), hcnt4, hb4⟩
        case measure => simp [intOf]; omega
      · have HE1 : Hid (esc 0 ((nums s).take (k + 1)) = E ++ [(s[k].toNat : Int)]) := by have := HES.out; rw [if_neg hg] at this; exact this
        have HZ1 : Hid (zs 0 ((nums s).take (k + 1)) = nx z s[k].toNat) := by have := HZS.out; rw [if_neg hg] at this; exact this
        have hq : q = false ∨ (q = true ∧ ¬ (s[k].toNat : Int) < 4) := by
          cases q
          · exact .inl rfl
          · exact .inr ⟨rfl, fun h => hg ⟨of_decide_eq_true HQ.out.symm, h⟩⟩
        clear HES HZS HQ hg
        rcases hq with rfl | ⟨rfl, hg2⟩
        all_goals
          go_wp2_with (first
            | (at_builtin; refine wpList_append_lies _ (by rfl) _ _ 22 (by rfl) w.heap.size 5 i0 (.int .u8 0) 1 1 Tryd.underlying22 hi0 hz0 hz1 hz2 rfl (by omega) u4 E.length _ (by rfl) (hown.alloc _) ⟨wr.heap.size, 0, none⟩ 1 1 [.int .u8 (s[k].toNat : Int)] (by rfl) (by rfl) (World.news_of_block (cs := #[.int .u8 (s[k].toNat : Int)]) (t := 5) (fr := (0, 0)) (heap_alloc_new wr _)) (by simp [Value.oneCell']) (by omega) (by unfold maxLen; omega) (by omega) (by simp <;> omega) (wr.heap.size + 1) (by simp) ?_; intro gg3 cap3 w3 hown4 hgrow hat hlt2; have R1 := cnt_app hcnt hown (by decide) hb hbs hgrow; have hown5 : w3.ownsRow w.heap.size 5 1 (.slice (some ⟨gg3, 0, none⟩) (E.length + 1) cap3) (E.length + 1) ((E ++ [(s[k].toNat : Int)]).map (Value.int .u8)) := (by simpa using hown4); clear hown4 hgrow hat hlt2 hown hb hcnt; have hb3 := R1.2; have hcnt3 := R1.1; have hbs3 := hb3.size; clear R1)
            | (go_at_call 39; refine (put_any B z _ _ hcnt3 (by omega) h0 h255).mono ?_; rintro e w4 ⟨rfl, hcnt4, hgr4⟩; have hown6 := hown5.kept hgr4 (.inr (hcnt3.apart hown5 (by decide))); have hb4 := hb3.grown hgr4 hbs3 (fun j hj => by cases hj; exact hB); clear hown5 hgr4 hb3 hcnt3))
          go_roundw
          case rel => exact ⟨k + 1, _, E ++ [(s[k].toNat : Int)], _, by omega, by go_num, rfl, HE1.out.symm, HZ1.out.symm, rfl, own_len hown6 (by simp), hcnt4, hb4⟩
          case measure => simp [intOf]; omega
    · obtain rfl : k = s.size := by omega
      have HE1 : Hid (E = esc 0 (nums s)) := by have := HE.out; rw [List.take_of_length_le (by rw [nums_length]; omega)] at this; exact this
      have hconv := convF hown
      go_wp2
      go_ret2
      rw [HV.out, ← HE1.out]
      exact ⟨rfl, hb⟩
end Go.Proofs.YtabpdiekmljceaaDoor
