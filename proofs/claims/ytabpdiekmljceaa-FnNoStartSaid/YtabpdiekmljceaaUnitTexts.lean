/-
  Rows of texts that came in: the walks of laws.szStringS and laws.toStringS.
-/
import Derived.Test.YtabpdiekmljceaaTextEq
import Derived.Test.YtabpdiekmljceaaUnitKit
namespace Go.Proofs.Ytabpdiekmljceaa
open Go.RowKit
set_option linter.unusedVariables false
attribute [local go_sem ↓] Go.wp_at_zero Go.wp_at_succ

/-- A row of texts, wherever it lies. -/
def Texts (w : World) (a : Option Addr) (xs : List ByteArray) : Prop :=
  xs = [] ∨ ∃ b off, a = some ⟨b, off, none⟩ ∧ b < w.heap.size ∧ ∀ i, i < xs.length → w.cell? ⟨b, off + i, none⟩ = some (.string (xs.getD i ByteArray.empty))
theorem Texts.below {w w' : World} {a : Option Addr} {xs : List ByteArray} {B : Nat} (h : Texts w a xs) (hb : Below B w w') (hB : w.heap.size ≤ B) : Texts w' a xs := by
  rcases h with h | ⟨b, off, rfl, hg, hc⟩
  · exact .inl h
  · exact .inr ⟨b, off, rfl, Nat.lt_of_lt_of_le hg hb.size, fun i hi => (hb.cell (p := ⟨b, off + i, none⟩) (Nat.lt_of_lt_of_le hg hB)).trans (hc i hi)⟩
theorem getD_size {xs : List ByteArray} {i : Nat} {n : Nat} (h : ∀ x ∈ xs, x.size ≤ n) (hi : i < xs.length) : (xs.getD i ByteArray.empty).size ≤ n := by
  rw [List.getD_eq_getElem?_getD, List.getElem?_eq_getElem hi]
  exact h _ (List.getElem_mem _)
theorem size_take {xs : List ByteArray} {k n : Nat} (hk : k < xs.length) (h : ∀ x ∈ xs.take k, x.size ≤ n) (h1 : (xs.getD k ByteArray.empty).size ≤ n) : ∀ x ∈ xs.take (k + 1), x.size ≤ n := by
  intro x hx
  rw [List.take_succ_eq_append_getElem hk] at hx
  rcases List.mem_append.1 hx with hx | hx
  · exact h x hx
  · rw [List.mem_singleton.1 hx]
    rw [List.getD_eq_getElem?_getD, List.getElem?_eq_getElem hk] at h1
    exact h1

set_option maxHeartbeats 800000 in
theorem szStringS_any (a : Option Addr) (cap : Nat) (xs : List ByteArray) (w : World) (ht : Texts w a xs) (hl : xs.length ≤ maxLen) (hx : ∀ x ∈ xs, x.size ≤ maxLen) :
    Calls Try.prog 13 #[.slice a xs.length cap, .int .i64 1048576] w fun e w' => ∃ r : Int, e = .returned (.int .i64 r) ∧ (r < 0 ∨ (0 ≤ r ∧ xs.length ≤ 1048576 ∧ ∀ x ∈ xs, x.size ≤ 1048576)) ∧ Below w.heap.size w w' := by
  unfold maxLen at hl hx
  by_cases hbig : 1048576 < xs.length
  · go_enter Try.func13, Try.ntmps13
    go_wp2
    go_ret
    exact ⟨_, rfl, .inl (by decide), Below.refl _ _⟩
  have HX : Hid (∀ x ∈ xs, x.size ≤ 9223372036854775807) := hx
  have HT : Hid (Texts w a xs) := ht
  clear hx ht
  have hl' : (xs.length : Int) ≤ 1048576 := by omega
  go_enter Try.func13, Try.ntmps13
  go_wp2
  go_loopw [1, 5] (fun v i wr => ∃ (k L : Nat), k ≤ xs.length ∧ i = .int .i64 k ∧ v = .int .i64 L ∧ (L : Int) ≤ 1048576 ∧ Hid (∀ x ∈ xs.take k, x.size ≤ 1048576) ∧ Below w.heap.size w wr)
    (fun _ i _ => xs.length - (intOf i).toNat)
  case atStart => exact ⟨0, 1048576 - xs.length, Nat.zero_le _, rfl, by go_num, by omega, (fun x hx => by simp at hx), Below.refl _ _⟩
  case round =>
    obtain ⟨k, L, hk, rfl, rfl, hL, HK, hb⟩ := hrel
    by_cases hlt : k < xs.length
    · rcases HT.out with h | ⟨b, off, rfl, hg, hc⟩
      · rw [h] at hlt; simp at hlt
      have d1 : wr.cell? ⟨b, off + k, none⟩ = some (.string (xs.getD k ByteArray.empty)) := (hb.cell (p := ⟨b, off + k, none⟩) hg).trans (hc k hlt)
      have hs1 : ((xs.getD k ByteArray.empty).size : Int) ≤ 9223372036854775807 := by have := getD_size HX.out hlt; omega
      obtain ⟨x, HXk⟩ : ∃ x, Hid (x = xs.getD k ByteArray.empty) := ⟨_, rfl⟩
      rw [← HXk.out] at d1 hs1
      clear hc
      have l0 : (0 : Int) ≤ (k : Int) := by omega
      have l1 : (k : Int) < (xs.length : Int) := by omega
      by_cases hneg : (L : Int) < (x.size : Int)
      · go_wp2
        go_ret
        exact ⟨_, rfl, .inl (by decide), hb⟩
      · go_wp2
        go_roundw
        case rel => exact ⟨k + 1, L - x.size, by omega, by go_num, by go_num, by omega, size_take hlt HK.out (by rw [← HXk.out]; omega), hb⟩
        case measure => simp [intOf]; omega
    · obtain rfl : k = xs.length := by omega
      go_wp2
      go_ret
      exact ⟨_, rfl, .inr ⟨by omega, by omega, by have := HK.out; rwa [List.take_of_length_le (Nat.le_refl _)] at this⟩, hb⟩

theorem infoS : (Try.prog.info? 9).map (fun i => (i.zero, i.size, i.bytes)) = some (some (.string ByteArray.empty), 1, 16) := by kernel_rfl

/-- The texts that lie in the copy when the first j are put. -/
def toUp (xs : List ByteArray) (j i : Nat) : ByteArray := if i < j then xs.getD i ByteArray.empty else ByteArray.empty
theorem toUp_full (xs : List ByteArray) : (List.range xs.length).map (toUp xs xs.length) = xs := by
  apply List.ext_getElem
  · simp
  · intro i h1 h2
    simp [toUp, h2]
theorem toUp_set (xs : List ByteArray) (n j : Nat) : (((List.range n).map (toUp xs j)).map Value.string).set j (.string (xs.getD j ByteArray.empty)) = ((List.range n).map (toUp xs (j + 1))).map Value.string := by
  rw [List.map_map, List.map_map]
  have e : Value.string (xs.getD j ByteArray.empty) = (Value.string ∘ toUp xs (j + 1)) j := by simp [toUp]
  rw [e]
  refine range_set n j _ _ (fun i hi => ?_)
  simp only [Function.comp, toUp]
  by_cases h : i < j
  · simp [h, Nat.lt_succ_of_lt h]
  · simp [h, show ¬ i < j + 1 by omega]
theorem toUp_zero (xs : List ByteArray) (n : Nat) : (madeCells (Value.string ByteArray.empty).cells (n * 1)).toList = ((List.range n).map (toUp xs 0)).map Value.string := by
  rw [made_one _ _ rfl, List.map_map]; apply List.map_congr_left; intro i hi; simp [toUp]

set_option maxHeartbeats 800000 in
theorem toStringS_any (a : Option Addr) (cap : Nat) (xs : List ByteArray) (w : World) (ht : Texts w a xs) (hl : xs.length ≤ 1048576) :
    Calls Try.prog 15 #[.slice a xs.length cap] w fun e w' => ∃ v, e = .returned v ∧ w'.ownsRow w.heap.size 9 1 v xs.length (xs.map Value.string) ∧ Below w.heap.size w w' := by
  obtain ⟨i0, hi0, hz0, hz1, hz2⟩ := info_parts infoS
  have HT : Hid (Texts w a xs) := ht
  clear ht
  obtain ⟨n, hn⟩ : ∃ n, n = xs.length := ⟨_, rfl⟩
  have HN : Hid (n = xs.length) := hn
  rw [← hn] at hl ⊢
  clear hn
  have hl' : (n : Int) ≤ 1048576 := by omega
  go_enter Try.func15, Try.ntmps15
  go_wp2_with (at_make; refine wpList_make_full _ (by rfl) _ _ 24 (by rfl) w.heap.size 9 i0 (.string ByteArray.empty) 1 Try.underlying24 hi0 hz0 hz1 .i64 .i64 _ _ n (by rfl) (by rfl) (by rfl) (by rfl) (by rw [hz2]; omega) (by unfold maxLen; omega) (Nat.le_refl _) ?_; intro w1 hown0 hgrow0)
  have hb0 : Below w.heap.size w w1 := (Below.refl _ _).grown hgrow0 (Nat.le_refl _) (fun j hj => by cases hj)
  rw [toUp_zero xs] at hown0
  clear hgrow0
  go_loopw [4] (fun i wr => ∃ j : Nat, j ≤ n ∧ i = .int .i64 j ∧ wr.ownsRow w.heap.size 9 1 (.slice (some ⟨w.heap.size, 0, none⟩) n n) n (((List.range n).map (toUp xs j)).map Value.string) ∧ Below w.heap.size w wr)
    (fun i _ => n - (intOf i).toNat)
  case atStart => exact ⟨0, Nat.zero_le _, rfl, hown0, hb0⟩
  case round =>
    obtain ⟨j, hj, rfl, hown, hb⟩ := hrel
    clear hown0 hb0
    by_cases hlt : j < n
    · have hlt' : j < xs.length := by rw [← HN.out]; exact hlt
      rcases HT.out with h | ⟨b, off, rfl, hg, hc⟩
      · rw [h] at hlt'; simp at hlt'
      have d1 : wr.cell? ⟨b, off + j, none⟩ = some (.string (xs.getD j ByteArray.empty)) := (hb.cell (p := ⟨b, off + j, none⟩) hg).trans (hc j hlt')
      have hq0 : (0 : Int) ≤ (j : Int) := by omega
      have hq : (j : Int) < (n : Int) := by omega
      have hcc := hown.cellAt j (by omega)
      have hfz := hown.frozenAt j
      have hc' : wr.cell? ⟨w.heap.size, j, none⟩ = some (.string (toUp xs j j)) := by rw [hcc]; simp [hlt]
      have hst := hown.stored j (.string (xs.getD j ByteArray.empty))
      clear hcc hc hlt'
      have hbs := hb.grown hst.2 hb.size (fun j hj => by cases hj; exact Nat.le_refl _)
      have hos := hst.1
      rw [toUp_set] at hos
      clear hst
      generalize xs.getD j ByteArray.empty = x at *
      go_wp2
      go_roundw
      case rel => exact ⟨j + 1, by omega, by go_num, hos, hbs⟩
      case measure => simp [intOf]; omega
    · obtain rfl : j = n := by omega
      have hown' := hown
      rw [HN.out, toUp_full, ← HN.out] at hown'
      go_wp2
      go_ret
      exact ⟨_, rfl, hown', hb⟩
end Go.Proofs.Ytabpdiekmljceaa
