/-
  Plain facts on cutting a line at its blanks.
-/
import Derived.WalkKit
import Derived.Laws.BytesArg
namespace Go.Proofs.Ytlbaahcifchknaa
open Go.RowKit

structure Cutting where
  done : List (List UInt8)
  cur : List UInt8

def cutStep (c : Cutting) (x : UInt8) : Cutting :=
  if x = 32 then (if c.cur = [] then c else ⟨c.done ++ [c.cur], []⟩) else ⟨c.done, c.cur ++ [x]⟩
def cutTo (l : List UInt8) : Cutting := l.foldl cutStep ⟨[], []⟩
def cutEnd (c : Cutting) : List (List UInt8) := if c.cur = [] then c.done else c.done ++ [c.cur]
def okByte (x : UInt8) : Bool := decide (32 ≤ x.toNat) && decide (x.toNat ≤ 126)
def strsOf (l : List (List UInt8)) : List Value := l.map fun x => Value.string ⟨x.toArray⟩

theorem cutTo_snoc (l : List UInt8) (x : UInt8) : cutTo (l ++ [x]) = cutStep (cutTo l) x := by simp [cutTo]
theorem cutStep_blank_none {c : Cutting} (h : c.cur = []) : cutStep c 32 = c := by simp [cutStep, h]
theorem cutStep_blank_some {c : Cutting} (h : c.cur ≠ []) : cutStep c 32 = ⟨c.done ++ [c.cur], []⟩ := by simp [cutStep, h]
theorem cutStep_other {c : Cutting} {x : UInt8} (h : x ≠ 32) : cutStep c x = ⟨c.done, c.cur ++ [x]⟩ := by simp [cutStep, h]

/-- What is done and what is begun together are no longer than the line; each part done has a sign. -/
theorem cut_len (l : List UInt8) : (cutTo l).done.length + (cutTo l).cur.length ≤ l.length := by
  suffices ∀ c : Cutting, (l.foldl cutStep c).done.length + (l.foldl cutStep c).cur.length ≤ c.done.length + c.cur.length + l.length by
    have := this ⟨[], []⟩; simpa [cutTo] using this
  induction l with
  | nil => intro c; simp
  | cons x l ih =>
    intro c
    rw [List.foldl_cons]
    have h := ih (cutStep c x)
    have h2 : (cutStep c x).done.length + (cutStep c x).cur.length ≤ c.done.length + c.cur.length + 1 := by
      unfold cutStep
      split
      · split
        · omega
        · rename_i _ hc
          have := List.length_pos_iff.2 hc
          simp only [List.length_append, List.length_singleton, List.length_nil]; omega
      · simp; omega
    simp at h ⊢; omega
theorem cut_cur_drop (l : List UInt8) : (cutTo l).cur = l.drop (l.length - (cutTo l).cur.length) := by
  suffices ∀ n (l : List UInt8), l.length = n → (cutTo l).cur = l.drop (l.length - (cutTo l).cur.length) from this _ l rfl
  intro n
  induction n with
  | zero => intro l hl; have : l = [] := List.eq_nil_of_length_eq_zero hl; subst this; rfl
  | succ n ih =>
    intro l hl
    obtain ⟨x, k, rfl⟩ : ∃ x k, l = k ++ [x] := by
      refine ⟨l.getLast (by intro h; simp [h] at hl), l.dropLast, ?_⟩
      exact (List.dropLast_concat_getLast _).symm
    have hk := ih k (by simp at hl; omega)
    have hb := cut_len k
    rw [cutTo_snoc]
    by_cases hx : x = 32
    · subst hx
      by_cases hc : (cutTo k).cur = []
      · rw [cutStep_blank_none hc, hc]; simp
      · rw [cutStep_blank_some hc]; simp
    · rw [cutStep_other hx]
      simp only [List.length_append, List.length_singleton]
      have e : k.length + 1 - ((cutTo k).cur.length + 1) = k.length - (cutTo k).cur.length := by omega
      rw [e, List.drop_append_of_le_length (by omega), ← hk]

def partsOk (l : List UInt8) : Bool := decide (l.length ≤ 600) && l.all okByte && decide ((cutEnd (cutTo l)).length ≤ 12)
def partsR (l : List UInt8) : List (List UInt8) := if partsOk l then cutEnd (cutTo l) else []
theorem partsR_len (l : List UInt8) : (partsR l).length ≤ 12 := by
  unfold partsR
  split
  · rename_i h
    simp [partsOk] at h
    exact h.2
  · simp
end Go.Proofs.Ytlbaahcifchknaa
