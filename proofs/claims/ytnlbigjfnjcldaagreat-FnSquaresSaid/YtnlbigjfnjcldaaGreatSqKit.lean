/-
  Squares of numbers, laid flat: the cells of n numbers, and a block that holds just them.
-/
import Derived.Test.YtnlbigjfnjcldaaGreatRows
import Derived.Test.YtnlbigjfnjcldaaGreatBlkKit
import Derived.Deep.MidRow
import Derived.Deep.RegionHeld3
import Derived.KernelRfl
namespace Go.Proofs.YtnlbigjfnjcldaaGreat
open Go.RowKit
set_option linter.unusedVariables false
set_option maxRecDepth 20000

/-- The cells of the numbers f 0 .. f (n - 1). -/
def arr (n : Nat) (f : Nat → Int) : Array Value := ((List.range n).map (fun i => Value.int .i64 (f i))).toArray
theorem arr_size (n : Nat) (f : Nat → Int) : (arr n f).size = n := by simp [arr]
theorem arr_get {n i : Nat} (f : Nat → Int) (h : i < n) : (arr n f)[i]? = some (.int .i64 (f i)) := by simp [arr, h]
theorem arr_congr {n : Nat} {f g : Nat → Int} (h : ∀ i, i < n → f i = g i) : arr n f = arr n g := by
  unfold arr
  congr 1
  apply List.map_congr_left
  intro i hi
  rw [h i (List.mem_range.1 hi)]
theorem arr_inj {n : Nat} {f g : Nat → Int} (h : arr n f = arr n g) : ∀ i, i < n → f i = g i := fun i hi => by
  have e := arr_get f hi
  rw [h, arr_get g hi] at e
  simpa using e.symm
theorem arr_set {n j : Nat} {f g : Nat → Int} (v : Int) (hv : g j = v) (hg : ∀ i, i ≠ j → g i = f i) : (arr n f).setIfInBounds j (.int .i64 v) = arr n g := by
  apply Array.ext_getElem?
  intro i
  rw [Array.getElem?_setIfInBounds, arr_size]
  by_cases hi : i < n
  · rw [arr_get g hi]
    by_cases e : j = i
    · subst e; simp [hi, hv]
    · rw [if_neg e, arr_get f hi, hg i (fun h => e h.symm)]
  · have e1 : (arr n f)[i]? = none := by rw [Array.getElem?_eq_none]; rw [arr_size]; omega
    have e2 : (arr n g)[i]? = none := by rw [Array.getElem?_eq_none]; rw [arr_size]; omega
    rw [e1, e2]
    by_cases e : j = i
    · rw [if_pos e, if_neg (by omega)]
    · rw [if_neg e]
theorem arr_one (n : Nat) (f : Nat → Int) : (arr n f).all (·.oneCell') = true := by
  refine Array.all_eq_true_iff_forall_mem.2 (fun v hv => ?_)
  simp [arr] at hv
  obtain ⟨i, _, rfl⟩ := hv
  rfl
theorem arr_extract {n o m : Nat} (f : Nat → Int) (h : o + m ≤ n) : (arr n f).extract o (o + m) = arr m (fun i => f (o + i)) := by
  apply Array.ext_getElem?
  intro i
  rw [Array.getElem?_extract]
  by_cases hi : i < m
  · rw [arr_get _ hi, if_pos (by rw [arr_size]; omega), arr_get f (by omega)]
  · have e2 : (arr m (fun i => f (o + i)))[i]? = none := by rw [Array.getElem?_eq_none]; rw [arr_size]; omega
    rw [e2, if_neg (by rw [arr_size]; omega)]
/-- A part of a block that is known whole. -/
theorem range_of_arr {w : World} {g n : Nat} {f : Nat → Int} {t : TypeId} (h : Blk w g (arr n f) t) (o m : Nat) (hm : o + m ≤ n) : w.rangeAt g o (arr m (fun i => f (o + i))).toList := by
  rw [← arr_extract f hm]
  exact World.rangeAt_of_block h o m
theorem range_all {w : World} {g n : Nat} {f : Nat → Int} {t : TypeId} (h : Blk w g (arr n f) t) : w.rangeAt g 0 (arr n f).toList := by
  have := range_of_arr h 0 n (by omega)
  simpa only [Nat.zero_add] using this
theorem there_of_arr {w : World} {g n : Nat} {f : Nat → Int} {t : TypeId} (h : Blk w g (arr n f) t) (o m : Nat) (hm : o + m ≤ n) : w.there g o m := fun j hj =>
  ⟨by rw [h.cell, arr_get f (by omega)]; rfl, h.frozen _⟩
theorem set_many {g : Nat} {t : TypeId} : ∀ (vs : List Value) (o : Nat) (cs : Array Value) (w : World), Blk w g cs t → o + vs.length ≤ cs.size →
    ∃ cs', Blk (w.setCells g o vs) g cs' t ∧ cs'.size = cs.size ∧ ∀ i, cs'[i]? = if o ≤ i ∧ i < o + vs.length then vs[i - o]? else cs[i]?
  | [], o, cs, w, h, _ => ⟨cs, h, rfl, fun i => by rw [if_neg (by simp only [List.length_nil]; omega)]⟩
  | v :: r, o, cs, w, h, hl => by
    simp at hl
    obtain ⟨cs', h1, h2, h3⟩ := set_many r (o + 1) (cs.setIfInBounds o v) (w.setCell ⟨g, o, none⟩ v) (h.set o v (by omega)) (by simp only [Array.size_setIfInBounds]; omega)
    refine ⟨cs', h1, by rw [h2]; simp only [Array.size_setIfInBounds], fun i => ?_⟩
    rw [h3 i, Array.getElem?_setIfInBounds]
    by_cases c1 : o + 1 ≤ i ∧ i < o + 1 + r.length
    · rw [if_pos c1, if_pos (by simp only [List.length_cons]; omega)]
      rw [show i - o = (i - (o + 1)) + 1 by omega]; simp
    · rw [if_neg c1]
      by_cases e : o = i
      · subst e; rw [if_pos rfl, if_pos (by omega), if_pos (by simp only [List.length_cons]; omega)]; simp
      · rw [if_neg e, if_neg (by simp only [List.length_cons]; omega)]
/-- A row of m numbers is stored from place o on. -/
theorem arr_store {w : World} {g n : Nat} {f k r : Nat → Int} {t : TypeId} (h : Blk w g (arr n f) t) (o m : Nat) (hm : o + m ≤ n) (hi : ∀ i, i < m → k (o + i) = r i) (ho : ∀ i, i < n → (i < o ∨ o + m ≤ i) → k i = f i) :
    Blk (w.setCells g o (arr m r).toList) g (arr n k) t := by
  have hl : (arr m r).toList.length = m := by simp [arr]
  obtain ⟨cs', h1, h2, h3⟩ := set_many (g := g) (t := t) (arr m r).toList o (arr n f) w h (by rw [hl, arr_size]; omega)
  have e : cs' = arr n k := by
    apply Array.ext_getElem?
    intro i
    rw [h3 i, hl]
    by_cases c : i < n
    · rw [arr_get k c]
      by_cases d : o ≤ i ∧ i < o + m
      · rw [if_pos d]
        have := arr_get r (show i - o < m by omega)
        simp only [Array.getElem?_toList]
        rw [this, ← hi (i - o) (by omega), show o + (i - o) = i by omega]
      · rw [if_neg d, arr_get f c, ho i c (by omega)]
    · have e1 : (arr n f)[i]? = none := by rw [Array.getElem?_eq_none]; rw [arr_size]; omega
      have e2 : (arr n k)[i]? = none := by rw [Array.getElem?_eq_none]; rw [arr_size]; omega
      rw [if_neg (by omega), e1, e2]
  rw [← e]; exact h1
theorem Blk.others {g g' : Nat} {cs : Array Value} {t : TypeId} (hne : g ≠ g') : ∀ (vs : List Value) (o : Nat) {w : World}, Blk w g cs t → Blk (w.setCells g' o vs) g cs t
  | [], _, _, h => h
  | v :: r, o, _, h => Blk.others hne r (o + 1) (h.other ⟨g', o, none⟩ v hne)
theorem Blk.grew {w w' : World} {g : Nat} {cs : Array Value} {t : TypeId} {row : Option Nat} (h : Blk w g cs t) (hg : w.grownBy w' row) (hne : some g ≠ row) : Blk w' g cs t := (hg.block g h.lt hne).trans h
/-- A struct and one result more, handed back out of its variable. -/
theorem results_cell_and {P : Program} {fn : Func} {p u : Tmp} {ty : TypeId} (h : fn.results = #[.cell p ty, .tmp u]) (tmps : Array Value) (w : World) (g : Nat) (t : TypeId) (cs : Array Value) (fr : Nat × Nat) (d : TypeDesc)
    (hp : tmps.getD p undef = .pointer (some ⟨g, 0, none⟩)) (hg : w.heap[g]? = some (.cells cs t fr))
    (hu : P.underlying ty = some d) (hd : (match d with | .struct _ | .array _ _ => true | _ => false) = true) (hi : (P.info? ty).map (·.size) = some cs.size) :
    (results fn tmps).run P w = .ok (.tuple #[.agg cs, tmps.getD u undef]) w := by
  have hp' : tmps[p]?.getD undef = .pointer (some ⟨g, 0, none⟩) := by simpa using hp
  simp [results, h, hp', asAddr, Result.andThen, run_loadVar_row w g t ty cs fr d hg hu hd hi]
theorem below_setCells {B g : Nat} {a : World} (hb : B ≤ g) : ∀ (vs : List Value) (o : Nat) (w : World), Below B a w → Below B a (w.setCells g o vs)
  | [], _, _, h => h
  | v :: r, o, w, h => below_setCells hb r (o + 1) _ (h.setCell (by exact hb) v)
end Go.Proofs.YtnlbigjfnjcldaaGreat
