/-
  The walk of laws.FnNoStart: a drawn unit, escaped and unescaped, is as it was; among what is escaped there is no beginning.
-/
import Derived.Test.YtabpdiekmljceaaCodeKit
import Derived.Test.YtabpdiekmljceaaUnitDraw
import Derived.Test.YtabpdiekmljceaaUnitFrame
namespace Go.Proofs.Ytabpdiekmljceaa
open Go.RowKit
set_option linter.unusedVariables false

theorem texts_of_row {w : World} {B n : Nat} {v : Value} {xs : List ByteArray} (h : w.ownsRow B 9 1 v n (xs.map Value.string)) : ∃ a c, v = .slice a xs.length c ∧ Texts w a xs := by
  rcases textRow_of_owns h with ⟨a, c, rfl, rfl⟩ | ⟨g, c, rfl, hg, hc⟩
  · exact ⟨a, c, rfl, .inl rfl⟩
  · exact ⟨_, c, rfl, .inr ⟨g, 0, rfl, hg, fun i hi => by rw [Nat.zero_add]; exact hc i hi⟩⟩
theorem getD_ok {xs : List ByteArray} {i : Nat} (h : ∀ x ∈ xs, UnitOk x) (hi : i < xs.length) : UnitOk (xs.getD i ByteArray.empty) := by
  rw [List.getD_eq_getElem?_getD, List.getElem?_eq_getElem hi]
  exact h _ (List.getElem_mem _)
theorem uneV_esc {x t : ByteArray} (hx : escOk (nums x) = true) (ht : nums t = esc 0 (nums x)) : uneV t = .tuple #[.string x, .bool true] := by
  rw [uneV_yes (by rw [ht]; exact uneOk_esc hx), ht, une_esc, of_nums]
theorem esc_start : escV ⟨#[0, 0, 1]⟩ = .tuple #[.string ⟨#[0, 0, 3, 1]⟩, .bool true] := by
  rw [escV_yes (by decide)]
  rfl
theorem clean_text {x t : ByteArray} (ht : nums t = esc 0 (nums x)) {j : Nat} (h2 : 2 ≤ j) (hj : j < t.size) (hj1 : j - 1 < t.size) (hj2 : j - 2 < t.size) (h0 : (t[j - 1].toNat : Int) = 0) (h1 : (t[j - 2].toNat : Int) = 0) : ¬ (t[j].toNat : Int) < 3 := by
  have := clean_at (by rw [ht]; exact clean_esc _ _ : clean 0 (nums t)) h2 (by rw [nums_length]; exact hj) (by rw [nums_getD t _ 7 hj1]; exact h0) (by rw [nums_getD t _ 7 hj2]; exact h1)
  rwa [nums_getD t _ 7 hj] at this

set_option maxRecDepth 20000 in
set_option maxHeartbeats 3200000 in
theorem fnNoStart_walk (a : Option Addr) (len cap : Nat) (w : World) (hc : CodeIn w a len cap) :
    Calls Try.prog 3 #[.slice a len cap] w fun e w' => e = .returned (.bool true) ∧ Below w.heap.size w w' := by
  have hlen := hc.1
  have hcode := hc.2.2
  clear hc
  go_enter Try.func3, Try.ntmps3
  go_wp2_with fail
  refine (big_any a len cap _ hlen).mono ?_
  rintro e w1 ⟨rfl, hw⟩
  subst w1
  go_wp2_with fail
  refine (drawUnits_any a len cap w.heap.size _ hcode (Nat.le_refl _)).mono ?_
  rintro e w1 ⟨v, xs, rfl, hx4, hxs, hown, hb1⟩
  obtain ⟨a1, c1, rfl, ht⟩ := texts_of_row hown
  clear hown hcode
  have HT : Hid (Texts w1 a1 xs) := ht
  have HX : Hid (∀ x ∈ xs, UnitOk x) := hxs
  clear ht hxs
  obtain ⟨n, hn⟩ : ∃ n, n = xs.length := ⟨_, rfl⟩
  have HN : Hid (n = xs.length) := hn
  rw [← hn] at hx4 ⊢
  clear hn
  have hn4 : (n : Int) ≤ 4 := by omega
  have hs1 := hb1.size
  go_wp2
  go_loopw [4] (fun i wr => ∃ k : Nat, k ≤ n ∧ i = .int .i64 k ∧ Below w1.heap.size w1 wr) (fun i _ => n - (intOf i).toNat)
  case atStart => exact ⟨0, Nat.zero_le _, rfl, Below.refl _ _⟩
  case round =>
    obtain ⟨k, hk, rfl, hb⟩ := hrel
    have hbs := hb.size
    by_cases hlt : k < n
    · have hlt' : k < xs.length := by rw [← HN.out]; exact hlt
      rcases HT.out with h | ⟨b, off, rfl, hg, hcl⟩
      · rw [h] at hlt'; simp at hlt'
      have d1 : wr.cell? ⟨b, off + k, none⟩ = some (.string (xs.getD k ByteArray.empty)) := (hb.cell (p := ⟨b, off + k, none⟩) hg).trans (hcl k hlt')
      have hu := getD_ok HX.out hlt'
      generalize xs.getD k ByteArray.empty = x at d1 hu
      clear hcl hlt'
      have l0 : (0 : Int) ≤ (k : Int) := by omega
      have l1 : (k : Int) < (n : Int) := by omega
      obtain ⟨hxo, hx16⟩ := hu
      obtain ⟨t, hT⟩ : ∃ t, t = strOfNums (esc 0 (nums x)) := ⟨_, rfl⟩
      have ht : nums t = esc 0 (nums x) := by rw [hT]; exact nums_of _ (esc_bd _ _ (nums_bd x))
      have hts : t.size = (esc 0 (nums x)).length := by rw [hT]; exact strOfNums_size _
      have hc1 : Hid (∀ w, Calls Try.prog 9 #[.string x] w fun e w' => e = .returned (.tuple #[.string t, .bool true]) ∧ Below w.heap.size w w') := fun w => by rw [hT, ← escV_yes hxo]; exact implEscaped x w
      have hsz1 : (1 : Int) ≤ (t.size : Int) := by rw [hts]; have := (esc_last hxo).1; omega
      have hsz : (t.size : Int) ≤ 32 := by rw [hts]; have := esc_length_le (nums x) 0; rw [nums_length] at this; omega
      have hc2 : Hid (∀ w, Calls Try.prog 10 #[.string t] w fun e w' => e = .returned (.tuple #[.string x, .bool true]) ∧ Below w.heap.size w w') := fun w => by rw [← uneV_esc hxo ht]; exact implUnescaped t w (by omega)
      have hge : (x.size : Int) ≤ (t.size : Int) := by rw [hts]; have := esc_length_ge (nums x) 0; rw [nums_length] at this; omega
      have hlast : t.size - 1 < t.size := by omega
      have hl0 : ((t[t.size - 1].toNat : Int) == 0) = false := by
        rw [beq_eq_false_iff_ne]
        have := (esc_last hxo).2
        rw [← ht, nums_length, nums_getD t _ 0 hlast] at this
        exact this
      have HC : Hid (∀ j (h2 : 2 ≤ j) (hj : j < t.size) (hj1 : j - 1 < t.size) (hj2 : j - 2 < t.size), (t[j - 1].toNat : Int) = 0 → (t[j - 2].toNat : Int) = 0 → ¬ (t[j].toNat : Int) < 3) := fun j h2 hj hj1 hj2 => clean_text ht h2 hj hj1 hj2
      clear hT ht hts hxo
      go_wp2_with (first
        | (go_at_call 9; refine (hc1.out _).mono ?_; rintro e w2 ⟨rfl, hb2⟩; have hb3 := hb.trans (hb2.mono hb.size); have d2 : w2.cell? ⟨b, off + k, none⟩ = some (.string x) := (hb2.cell (p := ⟨b, off + k, none⟩) (by show b < _; omega)).trans d1; clear d1 hb2 hb; have hbs2 := hb3.size)
        | (go_at_call 10; refine (hc2.out _).mono ?_; rintro e w3 ⟨rfl, hb4⟩; have hb5 := hb3.trans (hb4.mono hb3.size); have d3 : w3.cell? ⟨b, off + k, none⟩ = some (.string x) := (hb4.cell (p := ⟨b, off + k, none⟩) (by show b < _; omega)).trans d2; clear d2 hb4 hb3))
      generalize decide (t.size < x.size) = q
      go_loopw [9] (fun i wr => ∃ j : Nat, 2 ≤ j ∧ i = .int .i64 j ∧ Below w1.heap.size w1 wr) (fun i _ => t.size - (intOf i).toNat)
      case atStart => exact ⟨2, Nat.le_refl _, rfl, hb5⟩
      case round =>
        obtain ⟨j, hj2, rfl, hw⟩ := hrel
        have j2 : (2 : Int) ≤ (j : Int) := by omega
        by_cases hj : (j : Int) < (t.size : Int)
        · have hj0 : j < t.size := by omega
          have hj1 : j - 1 < t.size := by omega
          have hj3 : j - 2 < t.size := by omega
          have key := HC.out j hj2 hj0 hj1 hj3
          have HK : Hid (¬ (t[j].toNat : Int) < 3 ∨ ¬ (t[j - 1].toNat : Int) = 0 ∨ ¬ (t[j - 2].toNat : Int) = 0) := by
            by_cases e1 : (t[j - 1].toNat : Int) = 0
            · by_cases e2 : (t[j - 2].toNat : Int) = 0
              · exact .inl (by have := key e1 e2; omega)
              · exact .inr (.inr e2)
            · exact .inr (.inl e1)
          clear key
          by_cases h3 : (t[j].toNat : Int) < 3
          · by_cases h1 : (t[j - 1].toNat : Int) = 0
            · have h2 : ((t[j - 2].toNat : Int) == 0) = false := by
                rw [beq_eq_false_iff_ne]
                rcases HK.out with h | h | h
                · exact absurd h3 h
                · exact absurd h1 h
                · exact h
              have h1' : ((t[j - 1].toNat : Int) == 0) = true := by rw [h1]; rfl
              clear h1 HK
              go_wp2
              go_roundw
              case rel => exact ⟨j + 1, by omega, by go_num, hw⟩
              case measure => simp [intOf]; omega
            · have h1' : ((t[j - 1].toNat : Int) == 0) = false := by rw [beq_eq_false_iff_ne]; exact h1
              clear h1 HK
              go_wp2
              go_roundw
              case rel => exact ⟨j + 1, by omega, by go_num, hw⟩
              case measure => simp [intOf]; omega
          · clear HK
            go_wp2
            go_roundw
            case rel => exact ⟨j + 1, by omega, by go_num, hw⟩
            case measure => simp [intOf]; omega
        · go_wp2
          go_roundw
          case rel => exact ⟨k + 1, by omega, by go_num, hw⟩
          case measure => simp [intOf]; omega
    · have hc1 : Hid (∀ w, Calls Try.prog 9 #[.string ⟨#[0, 0, 1]⟩] w fun e w' => e = .returned (.tuple #[.string ⟨#[0, 0, 3, 1]⟩, .bool true]) ∧ Below w.heap.size w w') := fun w => by rw [← esc_start]; exact implEscaped _ w
      go_wp2_with (go_at_call 9; refine (hc1.out _).mono ?_; rintro e w2 ⟨rfl, hb2⟩)
      go_ret
      exact ⟨by simp, (hb1.trans (hb.mono hs1)).trans (hb2.mono (Nat.le_trans hs1 hbs))⟩
end Go.Proofs.Ytabpdiekmljceaa
