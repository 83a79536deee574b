/-
  Which dots lie beside a square of a picture, as functions.
-/
import Derived.Test.YthmcedfkfoagdaaCropMath
import Derived.Test.YthmcedfkfoagdaaEdgeKit
import Derived.Test.YthmcedfkfoagdaaOwnKit
namespace Go.Proofs.Ythmcedfkfoagdaa
open Go.RowKit
set_option linter.unusedVariables false
set_option maxRecDepth 20000

def aboveF (W H : Int) (s : ByteArray) (x y : Int) (i : Nat) : Int := dotF W H s (x + (i : Int)) (y - 1)
def leftF (W H : Int) (s : ByteArray) (x y : Int) (i : Nat) : Int := dotF W H s (x - 1) (y + (i : Int))
def aboveK (W H : Int) (s : ByteArray) (x y : Int) (k : Nat) : List Int := if 0 < y then listF k (aboveF W H s x y) else []
def leftK (W H : Int) (s : ByteArray) (x y : Int) (k : Nat) : List Int := if 0 < x then listF k (leftF W H s x y) else []
def cornerK (W H : Int) (s : ByteArray) (x y : Int) : Int := if 0 < x ∧ 0 < y then dotF W H s (x - 1) (y - 1) else -1
def fitsB (W H : Int) (s : ByteArray) (x y : Int) : Bool := picB W H s && decide (Int.tmod x 8 = 0) && decide (Int.tmod y 8 = 0) && inRB W H x y 8 8
theorem fitsB_iff {W H : Int} {s : ByteArray} {x y : Int} : fitsB W H s x y = true ↔ picB W H s = true ∧ Int.tmod x 8 = 0 ∧ Int.tmod y 8 = 0 ∧ inRB W H x y 8 8 = true := by
  simp [fitsB, and_assoc]
theorem listF_succ (f : Nat → Int) (k : Nat) : listF (k + 1) f = listF k f ++ [f k] := by simp [listF, List.range_succ]
theorem aboveK_zero (W H : Int) (s : ByteArray) (x y : Int) : aboveK W H s x y 0 = [] := by unfold aboveK; split <;> rfl
theorem leftK_zero (W H : Int) (s : ByteArray) (x y : Int) : leftK W H s x y 0 = [] := by unfold leftK; split <;> rfl
theorem aboveK_succ {W H : Int} {s : ByteArray} {x y : Int} (h : 0 < y) (k : Nat) : aboveK W H s x y (k + 1) = aboveK W H s x y k ++ [aboveF W H s x y k] := by unfold aboveK; rw [if_pos h, if_pos h, listF_succ]
theorem leftK_succ {W H : Int} {s : ByteArray} {x y : Int} (h : 0 < x) (k : Nat) : leftK W H s x y (k + 1) = leftK W H s x y k ++ [leftF W H s x y k] := by unfold leftK; rw [if_pos h, if_pos h, listF_succ]
theorem aboveK_no {W H : Int} {s : ByteArray} {x y : Int} (h : ¬ 0 < y) (k : Nat) : aboveK W H s x y k = [] := by unfold aboveK; rw [if_neg h]
theorem leftK_no {W H : Int} {s : ByteArray} {x y : Int} (h : ¬ 0 < x) (k : Nat) : leftK W H s x y k = [] := by unfold leftK; rw [if_neg h]
theorem aboveK_len (W H : Int) (s : ByteArray) (x y : Int) (k : Nat) : (aboveK W H s x y k).length ≤ k := by unfold aboveK; split <;> simp [listF]
theorem leftK_len (W H : Int) (s : ByteArray) (x y : Int) (k : Nat) : (leftK W H s x y k).length ≤ k := by unfold leftK; split <;> simp [listF]

theorem own_form {w : World} {B e s n : Nat} {v : Value} {xs : List Value} (h : w.ownsRow B e s v n xs) : ∃ a m c, v = .slice a m c := by
  rcases h.2 with ⟨rfl, _⟩ | ⟨g, cap, cur, rfl, _⟩
  · exact ⟨_, _, _, rfl⟩
  · exact ⟨_, _, _, rfl⟩
/-- Two rows of numbers that grow beside one another, beside the block of the struct that holds them. -/
structure EdgRows (w : World) (B ge : Nat) (v1 v2 : Value) (xs ys : List Int) : Prop where
  one : w.ownsRow B 3 1 v1 xs.length (xs.map (Value.int .i64))
  two : w.ownsRow B 3 1 v2 ys.length (ys.map (Value.int .i64))
  away1 : v1.ownBlock ≠ some ge
  away2 : v2.ownBlock ≠ some ge
  apart : ∀ k, v1.ownBlock = some k → v2.ownBlock ≠ some k
theorem EdgRows.below {w w' : World} {B ge : Nat} {v1 v2 : Value} {xs ys : List Int} (h : EdgRows w B ge v1 v2 xs ys) (hb : Below w.heap.size w w') : EdgRows w' B ge v1 v2 xs ys :=
  ⟨owned_below h.one hb, owned_below h.two hb, h.away1, h.away2, h.apart⟩
theorem EdgRows.grew {w w' : World} {B ge : Nat} {v1 v2 : Value} {xs ys : List Int} (h : EdgRows w B ge v1 v2 xs ys) (hg : w.grownBy w' (some ge)) : EdgRows w' B ge v1 v2 xs ys :=
  ⟨h.one.kept hg (.inr h.away1), h.two.kept hg (.inr h.away2), h.away1, h.away2, h.apart⟩
theorem EdgRows.apart' {w : World} {B ge : Nat} {v1 v2 : Value} {xs ys : List Int} (h : EdgRows w B ge v1 v2 xs ys) : ∀ k, v2.ownBlock = some k → v1.ownBlock ≠ some k := fun k h2 h1 => h.apart k h1 h2
theorem EdgRows.add1 {w w' : World} {B ge gg cp : Nat} {v1 v2 : Value} {xs ys : List Int} {d : Int} (h : EdgRows w B ge v1 v2 xs ys) (hge : ge < w.heap.size)
    (h1 : w'.ownsRow B 3 1 (.slice (some ⟨gg, 0, none⟩) (xs.length + 1) cp) (xs.length + 1) (xs.map (Value.int .i64) ++ [.int .i64 d])) (hg : w.grownBy w' v1.ownBlock) (hat : v1.ownBlock = some gg ∨ gg = w.heap.size) :
    EdgRows w' B ge (.slice (some ⟨gg, 0, none⟩) (xs.length + 1) cp) v2 (xs ++ [d]) ys := by
  refine ⟨by simpa using h1, h.two.kept hg ?_, ?_, h.away2, ?_⟩
  · cases hv : v2.ownBlock with
    | none => exact .inl rfl
    | some k => exact .inr fun e => h.apart k e.symm hv
  · intro e
    have e' : gg = ge := Option.some.inj e
    rcases hat with ha | ha
    · exact h.away1 (by rw [ha, e'])
    · omega
  · intro k e h2
    have e' : gg = k := Option.some.inj e
    rcases hat with ha | ha
    · exact h.apart k (by rw [ha, e']) h2
    · have := (h.two.lt k h2).2; omega
theorem EdgRows.add2 {w w' : World} {B ge gg cp : Nat} {v1 v2 : Value} {xs ys : List Int} {d : Int} (h : EdgRows w B ge v1 v2 xs ys) (hge : ge < w.heap.size)
    (h1 : w'.ownsRow B 3 1 (.slice (some ⟨gg, 0, none⟩) (ys.length + 1) cp) (ys.length + 1) (ys.map (Value.int .i64) ++ [.int .i64 d])) (hg : w.grownBy w' v2.ownBlock) (hat : v2.ownBlock = some gg ∨ gg = w.heap.size) :
    EdgRows w' B ge v1 (.slice (some ⟨gg, 0, none⟩) (ys.length + 1) cp) xs (ys ++ [d]) := by
  refine ⟨h.one.kept hg ?_, by simpa using h1, h.away1, ?_, ?_⟩
  · cases hv : v1.ownBlock with
    | none => exact .inl rfl
    | some k => exact .inr fun e => h.apart k hv e.symm
  · intro e
    have e' : gg = ge := Option.some.inj e
    rcases hat with ha | ha
    · exact h.away2 (by rw [ha, e'])
    · omega
  · intro k h1' e
    have e' : gg = k := Option.some.inj e
    rcases hat with ha | ha
    · exact h.apart k h1' (by rw [ha, e'])
    · have := (h.one.lt k h1').2; omega
theorem EdgRows.low {w w' : World} {B ge g : Nat} {v1 v2 : Value} {xs ys : List Int} (h : EdgRows w B ge v1 v2 xs ys) (hg : w.grownBy w' (some g)) (hlt : g < B) : EdgRows w' B ge v1 v2 xs ys :=
  ⟨h.one.kept hg (.inr (fun e => by have := (h.one.lt g e).1; omega)), h.two.kept hg (.inr (fun e => by have := (h.two.lt g e).1; omega)), h.away1, h.away2, h.apart⟩
theorem EdgRows.mono {w : World} {B B' ge : Nat} {v1 v2 : Value} {xs ys : List Int} (h : EdgRows w B ge v1 v2 xs ys) (hB : B' ≤ B) : EdgRows w B' ge v1 v2 xs ys :=
  ⟨own_mono h.one hB, own_mono h.two hB, h.away1, h.away2, h.apart⟩
end Go.Proofs.Ythmcedfkfoagdaa
