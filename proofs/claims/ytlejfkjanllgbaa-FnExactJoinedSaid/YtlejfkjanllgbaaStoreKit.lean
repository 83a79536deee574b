/-
  Numbers that are put, one behind the other, over others.
-/
import Derived.Test.YtlejfkjanllgbaaOwnKit
namespace Go.Proofs.Ytlejfkjanllgbaa
open Go.RowKit
set_option linter.unusedVariables false
set_option maxRecDepth 20000

/-- The first k are put. -/
def upF (f g : Nat → Int) (k i : Nat) : Int := if i < k then f i else g i
theorem upF_set (f g : Nat → Int) (n k : Nat) : ((listF n (upF f g k)).map (Value.int .i64)).set k (.int .i64 (f k)) = (listF n (upF f g (k + 1))).map (Value.int .i64) := by
  unfold listF
  rw [List.map_map, List.map_map]
  have e : Value.int .i64 (f k) = (Value.int .i64 ∘ upF f g (k + 1)) k := by
    simp only [Function.comp, upF]
    rw [if_pos (by omega)]
  rw [e]
  refine int_range_set n _ _ _ (fun i hi => ?_)
  simp only [Function.comp, upF]
  by_cases h : i < k
  · rw [if_pos h, if_pos (by omega)]
  · rw [if_neg h, if_neg (by omega)]
theorem upF_made (f : Nat → Int) (n : Nat) : (madeCells (Value.int .i64 0).cells (n * 1)).toList = (listF n (upF f (fun _ => 0) 0)).map (Value.int .i64) := by
  rw [int_made]
  unfold listF
  rw [List.map_map]
  apply List.map_congr_left
  intro i hi
  simp [upF]
theorem upF_none (f g : Nat → Int) (n : Nat) : listF n (upF f g 0) = listF n g := listF_congr fun i hi => by
  unfold upF
  rw [if_neg (by omega)]
theorem upF_full (f g : Nat → Int) (n : Nat) : listF n (upF f g n) = listF n f := listF_congr fun i hi => by
  unfold upF
  rw [if_pos hi]
theorem upF_at (f g : Nat → Int) (k : Nat) : upF f g k k = g k := by
  unfold upF
  rw [if_neg (by omega)]
theorem base_of_own {w : World} {B n s : Nat} {e : TypeId} {v : Value} {xs : List Value} (h : w.ownsRow B e s v n xs) : ∀ k, v.ownBlock = some k → B ≤ k := fun k hk => (h.lt k hk).1
theorem ints_there {w : World} {b o k : Nat} {xs : List Int} (h : Ints w (some ⟨b, o, none⟩) xs) (hk : k < xs.length) : w.cell? ⟨b, o + k, none⟩ = some (.int .i64 (xs.getD k 0)) := by
  rcases h with h0 | ⟨b', o', e, hg, hc⟩
  · rw [h0] at hk
    simp at hk
  · cases e
    exact hc k hk
theorem listF_end (n : Nat) (f : Nat → Int) : (listF n f).map (Value.int .i64) ++ [.int .i64 (f n)] = (listF (n + 1) f).map (Value.int .i64) := by
  unfold listF
  rw [List.range_succ, List.map_append, List.map_append]
  rfl
end Go.Proofs.Ytlejfkjanllgbaa
