/-
  Plain facts on the pieces of a stream: what the library's split gives, and what a scan from the left finds.
-/
import Derived.Test.YtabpdiekmljceaaDoorUnitMath
import Derived.Lib.SplitLaws
import Derived.Lib.TrimByte
namespace Go.Proofs.YtabpdiekmljceaaDoor
open Go.RowKit
set_option linter.unusedVariables false

abbrev sepB : ByteArray := ⟨#[0, 0, 1]⟩
def numL (l : List UInt8) : List Int := l.map fun c => (c.toNat : Int)
theorem u8_zero (c : UInt8) (n : Nat) (hn : n < 256) : c = UInt8.ofNat n ↔ (c.toNat : Int) = (n : Int) := by
  constructor
  · rintro rfl
    simp
    omega
  · intro h
    apply UInt8.toNat_inj.1
    simp
    omega
theorem pre_iff (b : UInt8) (l : List UInt8) : ([0, 0, 1] : List UInt8).isPrefixOf (b :: l) = true ↔ ((b.toNat : Int) = 0 ∧ (numL l).take 2 = [0, 1]) := by
  have z := fun c => u8_zero c 0 (by decide)
  have o := fun c => u8_zero c 1 (by decide)
  have z' : ∀ c : UInt8, (0 : UInt8) = c ↔ (c.toNat : Int) = 0 := fun c => eq_comm.trans (z c)
  have o' : ∀ c : UInt8, (1 : UInt8) = c ↔ (c.toNat : Int) = 1 := fun c => eq_comm.trans (o c)
  rcases l with _ | ⟨x, _ | ⟨y, t⟩⟩
  · simp [List.isPrefixOf, numL]
  · simp [List.isPrefixOf, numL]
  · simp only [List.isPrefixOf, numL, Bool.and_eq_true, beq_iff_eq, List.map_cons, List.take_succ_cons, List.take_zero, List.cons.injEq, and_true, z', o']
theorem cuts_index : ∀ l : List UInt8, (Lib.index l [0, 0, 1] = -1 → cuts (numL l) = (numL l, [])) ∧
    ∀ i : Nat, Lib.index l [0, 0, 1] = i → cuts (numL l) = ((numL l).take i, (cuts ((numL l).drop (i + 3))).1 :: (cuts ((numL l).drop (i + 3))).2)
  | [] => by
    refine ⟨fun _ => cuts_nil, fun i h => ?_⟩
    simp [Lib.index] at h
  | b :: l => by
    have ih := cuts_index l
    have hp := pre_iff b l
    have e : numL (b :: l) = (b.toNat : Int) :: numL l := rfl
    by_cases h : ([0, 0, 1] : List UInt8).isPrefixOf (b :: l) = true
    · have h' := hp.1 h
      have hi : Lib.index (b :: l) [0, 0, 1] = 0 := by unfold Lib.index; rw [if_pos h]
      rw [hi]
      refine ⟨fun h0 => absurd h0 (by decide), fun i h0 => ?_⟩
      obtain rfl : i = 0 := by omega
      rw [e, cuts, if_pos h']
      rfl
    · have h' := fun x => h (hp.2 x)
      have hi : Lib.index (b :: l) [0, 0, 1] = if Lib.index l [0, 0, 1] == -1 then -1 else Lib.index l [0, 0, 1] + 1 := by rw [Lib.index, if_neg h]
      rw [hi, e, cuts_step h']
      by_cases hm : Lib.index l [0, 0, 1] = -1
      · rw [if_pos (by simp [hm])]
        refine ⟨fun _ => by rw [ih.1 hm], fun i h0 => by omega⟩
      · rw [if_neg (by simp [hm])]
        have hge := Lib.index_ge l [0, 0, 1]
        refine ⟨fun h0 => by omega, fun i h0 => ?_⟩
        obtain ⟨j, rfl⟩ : ∃ j, i = j + 1 := ⟨i - 1, by omega⟩
        rw [ih.2 j (by omega)]
        rfl
theorem nums_numL (s : ByteArray) : nums s = numL s.data.toList := rfl
theorem nums_extract (s : ByteArray) (a b : Nat) : nums (s.extract a b) = ((nums s).take b).drop a := by
  rw [nums_numL, nums_numL]
  unfold numL
  rw [Lib.extract_data, ← List.map_take, ← List.map_drop, List.drop_take]
theorem cuts_split : ∀ (k : Nat) (s : ByteArray), Lib.countB s sepB = k → (Lib.splitB sepB 0 k s).map nums = (cuts (nums s)).1 :: (cuts (nums s)).2
  | k, s, hk => by
    have hx := cuts_index s.data.toList
    rcases Lib.indexB_cases s sepB with hix | ⟨i, hix, hroom⟩
    · rw [Lib.splitB_miss sepB 0 k s hix, nums_numL, hx.1 hix]
      rfl
    · have hc := Lib.countB_hit s sepB i (by decide) hix
      obtain ⟨j, rfl⟩ : ∃ j, k = j + 1 := ⟨k - 1, by omega⟩
      have hc' : Lib.countB (s.extract (i + sepB.size) s.size) sepB = j := by omega
      rw [Lib.splitB_hit sepB 0 j s i hix, List.map_cons, cuts_split j _ hc']
      rw [nums_extract, nums_extract]
      have e1 := hx.2 i hix
      rw [← nums_numL] at e1
      rw [e1]
      have e3 : ((nums s).take s.size).drop (i + sepB.size) = (nums s).drop (i + 3) := by
        rw [List.take_of_length_le (by rw [nums_length]; exact Nat.le_refl _)]
        rfl
      rw [e3]
      rfl
theorem trim_nums (s : ByteArray) : nums ⟨(Lib.trimRightB s.data.toList 0).toArray⟩ = trimR (nums s) := by
  have hz : ∀ c : UInt8, ((c.toNat : Int) == 0) = (c == 0) := fun c => by
    have := u8_zero c 0 (by decide)
    by_cases h : (c.toNat : Int) = 0
    · rw [this.2 h]; rfl
    · rw [beq_eq_false_iff_ne.2 h, eq_comm, beq_eq_false_iff_ne]
      exact fun h' => h (this.1 h')
  unfold trimR Lib.trimRightB nums
  rw [← List.map_reverse, List.dropWhile_map, ← List.map_reverse]
  simp only [Function.comp_def, hz]
theorem trim_size (s : ByteArray) : (⟨(Lib.trimRightB s.data.toList 0).toArray⟩ : ByteArray).size ≤ s.size := by
  rw [← nums_length, trim_nums, ← nums_length s]
  unfold trimR
  rw [List.length_reverse]
  have := (List.dropWhile_sublist (l := (nums s).reverse) (p := (· == 0))).length_le
  rwa [List.length_reverse] at this

/-! ### A scan from the left -/
def seg (L : List Int) (b e : Nat) : List Int := (L.take e).drop b
def HereL (L : List Int) (i : Nat) : Prop := L.getD i 7 = 0 ∧ L.getD (i + 1) 7 = 0 ∧ L.getD (i + 2) 7 = 1
def ScanSt (L : List Int) (F acc : List (List Int)) (bg : Int) (i : Nat) : Prop :=
  (i ≤ L.length ∧ bg = -1 ∧ F = (cuts (L.drop i)).2.foldl pushU acc) ∨
  (i ≤ L.length ∧ ∃ b : Nat, bg = b ∧ b ≤ i ∧ F = ((seg L b i ++ (cuts (L.drop i)).1) :: (cuts (L.drop i)).2).foldl pushU acc) ∨
  (∃ b : Nat, bg = b ∧ i < b ∧ b ≤ i + 2 ∧ b ≤ L.length ∧ L.getD (b - 1) 7 = 1 ∧ F = ((cuts (L.drop b)).1 :: (cuts (L.drop b)).2).foldl pushU acc) ∨
  (i = L.length + 1 ∧ F = acc)
theorem getD_drop {L : List Int} {i : Nat} (h : i < L.length) : L.drop i = L.getD i 7 :: L.drop (i + 1) := by
  rw [List.drop_eq_getElem_cons h, List.getD, List.getElem?_eq_getElem h]
  rfl
theorem here_lt {L : List Int} {i : Nat} (h : HereL L i) : i + 2 < L.length := by
  rcases Nat.lt_or_ge (i + 2) L.length with h' | h'
  · exact h'
  · have := h.2.2
    rw [List.getD, List.getElem?_eq_none h'] at this
    exact absurd this (by decide)
theorem here_drop {L : List Int} {i : Nat} (h : HereL L i) : L.drop i = 0 :: 0 :: 1 :: L.drop (i + 3) := by
  have hl := here_lt h
  rw [getD_drop (show i < L.length by omega), getD_drop (show i + 1 < L.length by omega), getD_drop (show i + 1 + 1 < L.length by omega), h.1, h.2.1, h.2.2]
theorem skip_drop {L : List Int} {i : Nat} (hi : i < L.length) (h : ¬ HereL L i) : cuts (L.drop i) = (L.getD i 7 :: (cuts (L.drop (i + 1))).1, (cuts (L.drop (i + 1))).2) := by
  rw [getD_drop hi]
  refine cuts_step fun ⟨h0, h1⟩ => h ⟨h0, ?_⟩
  rcases Nat.lt_or_ge (i + 1) L.length with h2 | h2
  · rcases Nat.lt_or_ge (i + 2) L.length with h3 | h3
    · rw [getD_drop h2, getD_drop (show i + 1 + 1 < L.length by omega)] at h1
      simp only [List.take_succ_cons, List.take_zero, List.cons.injEq, and_true] at h1
      exact h1
    · rw [getD_drop h2, List.drop_eq_nil_of_le (by omega)] at h1
      simp at h1
  · rw [List.drop_eq_nil_of_le (by omega)] at h1
    simp at h1
theorem seg_snoc {L : List Int} {b i : Nat} (hb : b ≤ i) (hi : i < L.length) : seg L b (i + 1) = seg L b i ++ [L.getD i 7] := by
  unfold seg
  rw [List.take_succ_eq_append_getElem hi, List.drop_append_of_le_length (by rw [List.length_take]; omega), List.getD, List.getElem?_eq_getElem hi]
  rfl
theorem seg_self (L : List Int) (b : Nat) : seg L b b = [] := by
  unfold seg
  exact List.drop_eq_nil_of_le (by rw [List.length_take]; omega)
theorem seg_length (L : List Int) (b e : Nat) : (seg L b e).length ≤ e := by
  unfold seg
  rw [List.length_drop, List.length_take]
  omega
theorem scan_start (L : List Int) (h : L.length ≤ 60000) : ScanSt L (unitsOf L) [] (-1) 0 := by
  refine .inl ⟨Nat.zero_le _, rfl, ?_⟩
  unfold unitsOf
  rw [if_neg (by omega)]
  rfl
theorem scan_skip {L : List Int} {F acc : List (List Int)} {bg : Int} {i : Nat} (h : ScanSt L F acc bg i) (hi : i < L.length) (hn : ¬ HereL L i) : ScanSt L F acc bg (i + 1) := by
  rcases h with ⟨_, h1, h2⟩ | ⟨_, b, h1, h2, h3⟩ | ⟨b, h1, h2, h3, h4, h5, h6⟩ | ⟨h1, _⟩
  · refine .inl ⟨hi, h1, ?_⟩
    rw [h2, skip_drop hi hn]
  · refine .inr (.inl ⟨hi, b, h1, by omega, ?_⟩)
    rw [h3, skip_drop hi hn, seg_snoc h2 hi]
    simp
  · by_cases hb : b = i + 1
    · refine .inr (.inl ⟨hi, b, h1, by omega, ?_⟩)
      rw [h6, hb, seg_self]
      rfl
    · exact .inr (.inr (.inl ⟨b, h1, by omega, by omega, h4, h5, h6⟩))
  · omega
theorem scan_on {L : List Int} {F acc : List (List Int)} {bg : Int} {i : Nat} (h : ScanSt L F acc bg i) (hi : i ≤ L.length) (hh : HereL L i ∨ i = L.length) :
    (bg = -1 ∧ ScanSt L F acc (i + 3) (i + 1)) ∨ ∃ b : Nat, bg = b ∧ b ≤ i ∧ ScanSt L F (pushU acc (seg L b i)) (i + 3) (i + 1) := by
  rcases h with ⟨_, h1, h2⟩ | ⟨_, b, h1, h2, h3⟩ | ⟨b, h1, h2, h3, h4, h5, h6⟩ | ⟨h1, _⟩
  · refine .inl ⟨h1, ?_⟩
    rcases hh with hh | rfl
    · refine .inr (.inr (.inl ⟨i + 3, by omega, by omega, by omega, by have := here_lt hh; omega, hh.2.2, ?_⟩))
      rw [h2, here_drop hh, cuts_here]
    · refine .inr (.inr (.inr ⟨rfl, ?_⟩))
      rw [h2, List.drop_eq_nil_of_le (Nat.le_refl _), cuts_nil]
      rfl
  · refine .inr ⟨b, h1, h2, ?_⟩
    rcases hh with hh | rfl
    · refine .inr (.inr (.inl ⟨i + 3, by omega, by omega, by omega, by have := here_lt hh; omega, hh.2.2, ?_⟩))
      rw [h3, here_drop hh, cuts_here, List.append_nil]
      rfl
    · refine .inr (.inr (.inr ⟨rfl, ?_⟩))
      rw [h3, List.drop_eq_nil_of_le (Nat.le_refl _), cuts_nil, List.append_nil]
      rfl
  · exfalso
    rcases hh with hh | hh
    · by_cases hb : b = i + 1
      · rw [hb] at h5
        have := hh.1
        rw [show i + 1 - 1 = i from rfl, this] at h5
        exact absurd h5 (by decide)
      · obtain rfl : b = i + 2 := by omega
        have := hh.2.1
        rw [show i + 2 - 1 = i + 1 from rfl, this] at h5
        exact absurd h5 (by decide)
    · omega
  · omega
theorem scan_end {L : List Int} {F acc : List (List Int)} {bg : Int} {i : Nat} (h : ScanSt L F acc bg i) (hi : L.length < i) : F = acc := by
  rcases h with ⟨h1, _⟩ | ⟨h1, _⟩ | ⟨b, h1, h2, h3, h4, h5, h6⟩ | ⟨h1, h2⟩
  · omega
  · omega
  · omega
  · exact h2
theorem scan_le {L : List Int} {F acc : List (List Int)} {bg : Int} {i : Nat} (h : ScanSt L F acc bg i) : i ≤ L.length + 1 := by
  rcases h with ⟨h1, _⟩ | ⟨h1, _⟩ | ⟨b, h1, h2, h3, h4, h5, h6⟩ | ⟨h1, h2⟩ <;> omega
theorem seg_cut {L : List Int} {b e : Nat} (hb : b < e) (he : e ≤ L.length) (h0 : L.getD (e - 1) 7 = 0) : trimR (seg L b e) = trimR (seg L b (e - 1)) := by
  obtain ⟨d, rfl⟩ : ∃ d, e = d + 1 := ⟨e - 1, by omega⟩
  rw [seg_snoc (by omega) (by omega)]
  rw [show d + 1 - 1 = d from rfl] at h0
  rw [h0, trimR_snoc]
  rfl
theorem seg_stop {L : List Int} {b e : Nat} (hb : b ≤ e) (he : e ≤ L.length) (h : e = b ∨ L.getD (e - 1) 7 ≠ 0) : trimR (seg L b e) = seg L b e := by
  rcases Nat.lt_or_ge b e with h1 | h1
  · rcases h with h | h
    · omega
    · obtain ⟨d, rfl⟩ : ∃ d, e = d + 1 := ⟨e - 1, by omega⟩
      rw [seg_snoc (by omega) (by omega)]
      refine trimR_same (.inr ?_)
      rw [getD_last]
      exact h
  · obtain rfl : e = b := by omega
    rw [seg_self]
    rfl
end Go.Proofs.YtabpdiekmljceaaDoor
