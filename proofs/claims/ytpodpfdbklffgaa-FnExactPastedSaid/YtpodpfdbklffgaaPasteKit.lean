/-
  Rows of bytes with a mark: one byte stored, a text copied into the middle.
-/
import Derived.Test.YtpodpfdbklffgaaMarkKit
import Derived.Test.YtpodpfdbklffgaaPasteMath
import Derived.Lib.LazyBuf
import Derived.Lib.SlBuf
namespace Go.Proofs.Ytpodpfdbklffgaa
open Go.RowKit
set_option linter.unusedVariables false
set_option maxRecDepth 20000

/-- The cells of the first n bytes of a function. -/
abbrev cellsU (n : Nat) (f : Nat → Int) : List Value := (listF n f).map (Value.int .u8)
theorem cellsU_set (n o : Nat) (f : Nat → Int) (z : Int) : (cellsU n f).set o (.int .u8 z) = cellsU n (fun j => if j = o then z else f j) := by
  unfold cellsU listF
  rw [List.map_map, List.map_map]
  have e : Value.int .u8 z = (Value.int .u8 ∘ fun j => if j = o then z else f j) o := by simp
  rw [e]
  refine range_set n o _ _ (fun i hi => ?_)
  simp [Function.comp, hi]
theorem cellsU_bytes (s : ByteArray) : (s.data.toList.map fun c => Value.int .u8 (c.toNat : Int)) = cellsU s.size (bAt s) := by
  unfold cellsU listF
  rw [List.map_map]
  apply List.ext_getElem
  · simp
  · intro i h1 h2
    have hi : i < s.size := by simpa using h1
    have := bAt_eq s i hi
    simp only [List.getElem_map, Function.comp, List.getElem_range]
    rw [← this]
    rfl
theorem cellsU_get {n j : Nat} (f : Nat → Int) (h : j < n) : (cellsU n f)[j]? = some (.int .u8 (f j)) := by simp [cellsU, listF, h]
theorem OwnM.frozenAt {w : World} {B n g c j : Nat} {e : TypeId} {xs : List Value} (h : OwnM w B e (.slice (some ⟨g, 0, none⟩) n c) n xs) (hj : j < n) : w.frozen? ⟨g, j, none⟩ = false := by
  obtain ⟨_, g', cap, cur, fz, h', _, hg, hfz, hnc, _, hcs, _⟩ := h
  simp only [Value.slice.injEq, Option.some.injEq, Addr.mk.injEq, and_true, true_and] at h'
  obtain ⟨rfl, rfl⟩ := h'
  obtain ⟨lo, hi⟩ := fz
  simp only [World.frozen?, hg, Bool.and_eq_false_iff, decide_eq_false_iff_not]
  simp only at hfz
  omega
theorem OwnM.stored {w : World} {B n g c j : Nat} {e : TypeId} {xs : List Value} (h : OwnM w B e (.slice (some ⟨g, 0, none⟩) n c) n xs) (hj : j < n) (u : Value) :
    OwnM (w.setCell ⟨g, j, none⟩ u) B e (.slice (some ⟨g, 0, none⟩) n c) n (xs.set j u) ∧ w.grownBy (w.setCell ⟨g, j, none⟩ u) (some g) := by
  obtain ⟨h1, g', cap, cur, fz, h', hb, hg, hfz, hnc, hcm, hcs, htake⟩ := h
  simp only [Value.slice.injEq, Option.some.injEq, Addr.mk.injEq, and_true, true_and] at h'
  obtain ⟨rfl, rfl⟩ := h'
  refine ⟨⟨by rw [List.length_set]; exact h1, g, c, cur.setIfInBounds j u, fz, rfl, hb, ?_, by simpa using hfz, hnc, hcm, by simpa using hcs, ?_⟩, ?_⟩
  · rw [setCell_eq_setRow w g j cur e fz u hg]
    exact setRow_heap w g cur _ e fz hg
  · rw [Array.toList_setIfInBounds, List.take_set, htake]
  · exact ⟨rfl, rfl, rfl, by simp, fun k _ hk => heap_setCell_other w _ k u (fun e => hk (by rw [e]))⟩
theorem OwnM.puts {B n g c : Nat} {e : TypeId} : ∀ (zs : List Int) (o : Nat) (f : Nat → Int) (w : World), OwnM w B e (.slice (some ⟨g, 0, none⟩) n c) n (cellsU n f) → o + zs.length ≤ n →
    OwnM (w.setCells g o (zs.map (Value.int .u8))) B e (.slice (some ⟨g, 0, none⟩) n c) n (cellsU n (fun j => if o ≤ j ∧ j < o + zs.length then zs.getD (j - o) 0 else f j)) ∧ w.grownBy (w.setCells g o (zs.map (Value.int .u8))) (some g)
  | [], o, f, w, h, _ => by
    refine ⟨?_, World.grownBy.refl _ _⟩
    have e : (fun j => if o ≤ j ∧ j < o + ([] : List Int).length then ([] : List Int).getD (j - o) 0 else f j) = f := by
      funext j
      rw [if_neg (by simp)]
    rw [e]
    exact h
  | z :: zs, o, f, w, h, hl => by
    simp at hl
    have h1 := h.stored (j := o) (by omega) (.int .u8 z)
    rw [cellsU_set] at h1
    have h2 := OwnM.puts zs (o + 1) _ _ h1.1 (by omega)
    refine ⟨?_, h1.2.trans h2.2⟩
    have e : (fun j => if o + 1 ≤ j ∧ j < o + 1 + zs.length then zs.getD (j - (o + 1)) 0 else if j = o then z else f j) = (fun j => if o ≤ j ∧ j < o + (z :: zs).length then (z :: zs).getD (j - o) 0 else f j) := by
      funext j
      simp only [List.length_cons]
      by_cases hj : j = o
      · subst hj
        rw [if_neg (by omega), if_pos rfl, if_pos (by omega), Nat.sub_self]
        rfl
      · by_cases h3 : o + 1 ≤ j ∧ j < o + 1 + zs.length
        · rw [if_pos h3, if_pos (by omega), show j - o = (j - (o + 1)) + 1 by omega]
          rfl
        · rw [if_neg h3, if_neg hj, if_neg (by omega)]
    rw [← e]
    exact h2.1
/-- copy(dst[A:], text): the text's bytes over the row from A on. -/
theorem copy_text {w : World} {B n g c A : Nat} {f : Nat → Int} (h : OwnM w B 5 (.slice (some ⟨g, 0, none⟩) n c) n (cellsU n f)) (T : ByteArray) (hA : A + T.size ≤ n) (dl dc : Nat) (hd : T.size ≤ dl) :
    ∃ w', (∀ ty, (Builtin.copy_ #[22, 9] ty #[.slice (some ⟨g, A, none⟩) dl dc, .string T]).run Try.prog w = .ok (.int .i64 T.size) w') ∧ OwnM w' B 5 (.slice (some ⟨g, 0, none⟩) n c) n (cellsU n (fun j => if A ≤ j ∧ j < A + T.size then bAt T (j - A) else f j)) ∧ w.grownBy w' (some g) := by
  have hs : (nums T).length = T.size := nums_length T
  have hp := h.puts (nums T) A f w (by omega)
  have hcs : ((nums T).map (Value.int .u8)) = (T.data.toList.map fun x => Value.int .u8 (x.toNat : Int)) := by
    unfold nums
    rw [List.map_map]
    rfl
  refine ⟨_, fun ty => run_copy_string (P := Try.prog) w 22 9 ty 5 g A dl dc T Try.underlying22 (fun w => by rfl) hd (fun j hj => ?_) (fun j hj => h.frozenAt (by omega)), ?_, ?_⟩
  · rw [h.cellAt (A + j) (by omega), cellsU_get f (by omega)]
    rfl
  · rw [← hcs]
    have e : (fun j => if A ≤ j ∧ j < A + (nums T).length then (nums T).getD (j - A) 0 else f j) = (fun j => if A ≤ j ∧ j < A + T.size then bAt T (j - A) else f j) := by
      funext j
      rw [hs]
      by_cases hj : A ≤ j ∧ j < A + T.size
      · rw [if_pos hj, if_pos hj, bAt_nums]
      · rw [if_neg hj, if_neg hj]
    rw [← e]
    exact hp.1
  · rw [← hcs]
    exact hp.2
end Go.Proofs.Ytpodpfdbklffgaa
