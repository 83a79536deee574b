/-
  What each way of a round of the cutting of a line does: plain facts and facts on owned rows of texts.
-/
import Derived.Test.YtlbaahcifchknaaHexImpl
import Derived.Test.YtlbaahcifchknaaPaMath
namespace Go.Proofs.Ytlbaahcifchknaa
open Go.RowKit

theorem info9 : (Try.prog.info? 9).map (fun i => (i.zero, i.size, i.bytes)) = some (some (.string ByteArray.empty), 1, 16) := by kernel_rfl

def outsAt (l : List UInt8) (k : Nat) : List (List UInt8) := if k ≤ l.length then (cutTo (l.take k)).done else cutEnd (cutTo l)
theorem strsOf_length (l : List (List UInt8)) : (strsOf l).length = l.length := by simp [strsOf]
theorem outsAt_len (l : List UInt8) (k : Nat) : (outsAt l k).length ≤ l.length + 1 := by
  unfold outsAt
  split
  · have := cut_len (l.take k)
    have h2 : (l.take k).length ≤ l.length := by simp; omega
    omega
  · unfold cutEnd
    have := cut_len l
    split
    · omega
    · simp; omega
theorem take_snocL (l : List UInt8) (k : Nat) (h : k < l.length) : l.take (k + 1) = l.take k ++ [l[k]] := by
  rw [List.take_succ_eq_append_getElem h]
theorem outs_other {l : List UInt8} {k : Nat} (h : k < l.length) (hx : l[k] ≠ 32) : outsAt l (k + 1) = outsAt l k := by
  unfold outsAt
  rw [if_pos (by omega), if_pos (by omega), take_snocL l k h, cutTo_snoc, cutStep_other hx]
theorem cur_other {l : List UInt8} {k : Nat} (h : k < l.length) (hx : l[k] ≠ 32) : (cutTo (l.take (k + 1))).cur.length = (cutTo (l.take k)).cur.length + 1 := by
  rw [take_snocL l k h, cutTo_snoc, cutStep_other hx]; simp
theorem outs_blank_none {l : List UInt8} {k : Nat} (h : k < l.length) (hx : l[k] = 32) (hc : (cutTo (l.take k)).cur = []) : outsAt l (k + 1) = outsAt l k := by
  unfold outsAt
  rw [if_pos (by omega), if_pos (by omega), take_snocL l k h, cutTo_snoc, hx, cutStep_blank_none hc]
theorem outs_blank_some {l : List UInt8} {k : Nat} (h : k < l.length) (hx : l[k] = 32) (hc : (cutTo (l.take k)).cur ≠ []) : outsAt l (k + 1) = outsAt l k ++ [(cutTo (l.take k)).cur] := by
  unfold outsAt
  rw [if_pos (by omega), if_pos (by omega), take_snocL l k h, cutTo_snoc, hx, cutStep_blank_some hc]
theorem cur_blank {l : List UInt8} {k : Nat} (h : k < l.length) (hx : l[k] = 32) : (cutTo (l.take (k + 1))).cur = [] := by
  rw [take_snocL l k h, cutTo_snoc, hx]
  by_cases hc : (cutTo (l.take k)).cur = []
  · rw [cutStep_blank_none hc, hc]
  · rw [cutStep_blank_some hc]
theorem outs_end_none {l : List UInt8} (hc : (cutTo (l.take l.length)).cur = []) : outsAt l (l.length + 1) = outsAt l l.length := by
  unfold outsAt
  rw [if_neg (by omega), if_pos (by omega)]
  rw [List.take_length] at hc ⊢
  simp [cutEnd, hc]
theorem outs_end_some {l : List UInt8} (hc : (cutTo (l.take l.length)).cur ≠ []) : outsAt l (l.length + 1) = outsAt l l.length ++ [(cutTo (l.take l.length)).cur] := by
  unfold outsAt
  rw [if_neg (by omega), if_pos (by omega)]
  rw [List.take_length] at hc ⊢
  simp [cutEnd, hc]
theorem extract_cur (s : ByteArray) (b k : Nat) (hk : k ≤ s.size) (hb : b + (cutTo (s.data.toList.take k)).cur.length = k) : s.extract b k = ⟨(cutTo (s.data.toList.take k)).cur.toArray⟩ := by
  have hl : (s.data.toList.take k).length = k := by rw [List.length_take]; have : s.data.toList.length = s.size := rfl; omega
  have hd := cut_cur_drop (s.data.toList.take k)
  rw [hl] at hd
  have e : k - (cutTo (s.data.toList.take k)).cur.length = b := by omega
  rw [e] at hd
  rw [hd]
  apply ByteArray.ext
  rw [ByteArray.data_extract]
  apply Array.ext'
  simp [Array.toList_extract, List.extract]
  rw [List.drop_take]
theorem partsOk_bad {l : List UInt8} {k : Nat} (h : k < l.length) (hx : okByte l[k] = false) : partsOk l = false := by
  unfold partsOk
  have : l.all okByte = false := by
    rw [List.all_eq_false]
    exact ⟨l[k], List.getElem_mem h, by simp [hx]⟩
  simp [this]
theorem partsOk_long {l : List UInt8} (h : 600 < l.length) : partsOk l = false := by
  unfold partsOk
  simp; omega
theorem partsOk_end {l : List UInt8} (h : l.length ≤ 600) (ha : ∀ x ∈ l, okByte x = true) : partsOk l = decide ((outsAt l (l.length + 1)).length ≤ 12) := by
  unfold partsOk outsAt
  rw [if_neg (by omega)]
  have : l.all okByte = true := by rw [List.all_eq_true]; exact ha
  simp [this, h]
theorem partsR_no {l : List UInt8} (h : partsOk l = false) : partsR l = [] := by unfold partsR; rw [h]; rfl
theorem partsR_yes {l : List UInt8} (h : partsOk l = true) : partsR l = outsAt l (l.length + 1) := by
  unfold partsR outsAt
  rw [if_pos h, if_neg (by omega)]
theorem owns_snoc {w : World} {B : Nat} {v : Value} {l : List (List UInt8)} {n : Nat} {x : List UInt8} (h : w.ownsRow B 9 1 v (l.length + 1) (strsOf l ++ [Value.string ⟨x.toArray⟩])) (hn : n = (l ++ [x]).length) : w.ownsRow B 9 1 v n (strsOf (l ++ [x])) := by
  subst hn
  simpa [strsOf] using h
theorem below_app {w wr w1 : World} {e : TypeId} {v : Value} {n : Nat} {xs : List Value} {o : Obj} (hb : Below w.heap.size w wr) (hown : wr.ownsRow w.heap.size e 1 v n xs) (hg : (wr.alloc o).grownBy w1 v.ownBlock) : Below w.heap.size w w1 :=
  (hb.alloc hb.size _).grown hg (by have := hb.size; simp; omega) (fun j hj => (hown.lt j hj).1)
theorem owns_form {w : World} {B : Nat} {e : TypeId} {v : Value} {n : Nat} {xs : List Value} (h : w.ownsRow B e 1 v n xs) : ∃ g c, v = .slice g n c := by
  rcases h.2 with ⟨rfl, rfl⟩ | ⟨g, cap, cur, rfl, _⟩
  · exact ⟨_, _, rfl⟩
  · exact ⟨_, _, rfl⟩
end Go.Proofs.Ytlbaahcifchknaa
