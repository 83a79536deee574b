/-
  Rows of numbers that a call owns: what they are as rows wherever they lie, and one that is divided place by place.
-/
import Derived.Test.YtnlbigjfnjcldaaAllKit
namespace Go.Proofs.Ytnlbigjfnjcldaa
open Go.RowKit
set_option linter.unusedVariables false
set_option maxRecDepth 20000

theorem own_mono {w : World} {B B' n s : Nat} {e : TypeId} {v : Value} {xs : List Value} (h : w.ownsRow B e s v n xs) (hB : B' ≤ B) : w.ownsRow B' e s v n xs := by
  refine ⟨h.1, ?_⟩
  rcases h.2 with h | ⟨g, cap, cur, h1, h2, h3⟩
  · exact .inl h
  · exact .inr ⟨g, cap, cur, h1, Nat.le_trans hB h2, h3⟩
theorem owned_ints {w : World} {B n : Nat} {v : Value} {g : Nat → Int} (h : w.ownsRow B 3 1 v n ((listF n g).map (Value.int .i64))) : ∃ p c, v = .slice p n c ∧ Ints w p (listF n g) := by
  obtain ⟨p, c, hv, hi, _⟩ := ints_of_owns h
  rw [listF_length] at hv
  exact ⟨p, c, hv, hi⟩
theorem grown_of_below {w w' : World} (hb : Below w.heap.size w w') (row : Option Nat) : w.grownBy w' row := ⟨hb.os, hb.tape, hb.output, hb.size, fun k hk _ => hb.block k hk⟩
theorem owned_below {w w' : World} {B n s : Nat} {e : TypeId} {v : Value} {xs : List Value} (h : w.ownsRow B e s v n xs) (hb : Below w.heap.size w w') : w'.ownsRow B e s v n xs :=
  h.kept (grown_of_below hb none) (by
    cases hq : v.ownBlock with
    | none => exact .inl rfl
    | some g => exact .inr (by simp))
theorem owned_at {w : World} {B c : Nat} {p : Option Addr} {xs : List Int} (h : w.ownsRow B 3 1 (.slice p xs.length c) xs.length (xs.map (Value.int .i64))) : Ints w p xs := by
  obtain ⟨a', c', e, i, _⟩ := ints_of_owns h
  cases e
  exact i
theorem own_none (w : World) {B : Nat} (hB : B ≤ w.heap.size) : (w.alloc (.cells #[] 3)).ownsRow B 3 1 (.slice (some ⟨w.heap.size, 0, none⟩) 0 0) 0 (([] : List Int).map (Value.int .i64)) :=
  World.ownsRow_lit w #[] 0 hB (by unfold maxLen; omega) rfl

/-- The first k numbers and 32, divided by 64 (down). -/
def downTo (g : Nat → Int) (k i : Nat) : Int := if i < k then (g i + 32) / 64 else g i
theorem downTo_set (g : Nat → Int) (n k : Nat) : ((listF n (downTo g k)).map (Value.int .i64)).set k (.int .i64 ((g k + 32) / 64)) = (listF n (downTo g (k + 1))).map (Value.int .i64) := by
  unfold listF
  rw [List.map_map, List.map_map]
  have e : Value.int .i64 ((g k + 32) / 64) = (Value.int .i64 ∘ downTo g (k + 1)) k := by simp [downTo]
  rw [e]
  refine int_range_set n k _ _ (fun i hi => ?_)
  simp only [Function.comp, downTo]
  by_cases h : i < k
  · rw [if_pos h, if_pos (by omega)]
  · rw [if_neg h, if_neg (by omega)]
theorem downTo_none (g : Nat → Int) (n : Nat) : listF n (downTo g 0) = listF n g := listF_congr fun i hi => by
  unfold downTo
  rw [if_neg (by omega)]
theorem downTo_full (g : Nat → Int) (n : Nat) : listF n (downTo g n) = listF n (fun i => (g i + 32) / 64) := listF_congr fun i hi => by
  unfold downTo
  rw [if_pos hi]
theorem downTo_at (g : Nat → Int) (k : Nat) : downTo g k k = g k := by
  unfold downTo
  rw [if_neg (by omega)]
theorem map_at {n k : Nat} (f : Nat → Int) (hk : k < n) : ((listF n f).map (Value.int .i64))[k]? = some (.int .i64 (f k)) := by simp [listF, hk]
end Go.Proofs.Ytnlbigjfnjcldaa
