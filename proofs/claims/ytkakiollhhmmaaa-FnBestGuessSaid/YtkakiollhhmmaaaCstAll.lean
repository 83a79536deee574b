/-
  Rectangles in a picture: which lie within it, and what is in them.
  Which dots lie beside a square of a picture, as functions.
  Marks in edges: the walks of laws.markEdges and laws.heldEdges.
  Guesses of one and the same dot, and guesses as calls with their dots.
-/
import Derived.Test.YtkakiollhhmmaaaPicMath
import Derived.Test.YtkakiollhhmmaaaEdgeKit
import Derived.Test.YtkakiollhhmmaaaOwnKit
import Derived.Test.YtkakiollhhmmaaaMarkInts
import Derived.Test.YtkakiollhhmmaaaSqKit
import Derived.Test.YtkakiollhhmmaaaGuessOfKit
namespace Go.Proofs.Ytkakiollhhmmaaa
open Go.RowKit
set_option linter.unusedVariables false
set_option maxRecDepth 20000

def spanB (f s side : Int) : Bool := decide (0 ≤ f) && decide (1 ≤ s) && decide (f ≤ side - s)
theorem spanB_iff {f s side : Int} : spanB f s side = true ↔ 0 ≤ f ∧ 1 ≤ s ∧ f ≤ side - s := by simp [spanB, and_assoc]
def inRB (W H l t a b : Int) : Bool := spanB l a W && spanB t b H
theorem inRB_iff {W H l t a b : Int} : inRB W H l t a b = true ↔ (0 ≤ l ∧ 1 ≤ a ∧ l ≤ W - a) ∧ (0 ≤ t ∧ 1 ≤ b ∧ t ≤ H - b) := by
  simp [inRB, spanB, and_assoc]
/-- Where row k of the rectangle begins in the picture. -/
def rowA (W l t : Int) (k : Nat) : Nat := ((t + (k : Int)) * W + l).toNat
theorem rowA_in {W H l t a b : Int} {z : Int} {k : Nat} (h : inRB W H l t a b = true) (hz : z = W * H) (hW : 1 ≤ W) (hk : (k : Int) < b) :
    (t + (k : Int)) * W + l = (rowA W l t k : Int) ∧ 0 ≤ (t + (k : Int)) * W ∧ (rowA W l t k : Int) + a ≤ z := by
  obtain ⟨⟨h0, h1, h2⟩, h3, h4, h5⟩ := inRB_iff.1 h
  have c : 0 * W ≤ (t + (k : Int)) * W := Int.mul_le_mul_of_nonneg_right (by omega) (by omega)
  have d : (t + (k : Int)) * W ≤ (H - 1) * W := Int.mul_le_mul_of_nonneg_right (by omega) (by omega)
  rw [Int.sub_mul, Int.one_mul, Int.mul_comm H W] at d
  have e : (t + (k : Int)) * W + l = (rowA W l t k : Int) := by unfold rowA; omega
  refine ⟨e, by omega, ?_⟩
  rw [← e]
  omega
/-- The first k rows of what is in a rectangle. -/
def cropS (W : Int) (s : ByteArray) (l t a : Int) : Nat → ByteArray
  | 0 => ⟨#[]⟩
  | k + 1 => cropS W s l t a k ++ s.extract (rowA W l t k) (rowA W l t k + a.toNat)
theorem cropS_size {W H l t a b : Int} {s : ByteArray} (h : inRB W H l t a b = true) (hz : (s.size : Int) = W * H) (hW : 1 ≤ W) : ∀ k : Nat, (k : Int) ≤ b → (cropS W s l t a k).size = k * a.toNat
  | 0, _ => by rw [Nat.zero_mul]; rfl
  | k + 1, hk => by
    have ih := cropS_size h hz hW k (by omega)
    obtain ⟨e, _, g⟩ := rowA_in h hz hW (k := k) (by omega)
    obtain ⟨⟨_, h1, _⟩, _⟩ := inRB_iff.1 h
    rw [cropS, ByteArray.size_append, ih, ByteArray.size_extract, Nat.add_mul]
    omega
/-- What CutOf answers. -/
def cropV (W H : Int) (s : ByteArray) (l t a b : Int) : Value :=
  if picB W H s && inRB W H l t a b then .tuple #[.agg #[.int .i64 a, .int .i64 b, .string (cropS W s l t a b.toNat)], .bool true] else .tuple #[.agg #[.int .i64 0, .int .i64 0, .string ⟨#[]⟩], .bool false]
end Go.Proofs.Ytkakiollhhmmaaa

namespace Go.Proofs.Ytkakiollhhmmaaa
open Go.RowKit
set_option linter.unusedVariables false

def aboveF (W H : Int) (s : ByteArray) (x y : Int) (i : Nat) : Int := dotF W H s (x + (i : Int)) (y - 1)
def leftF (W H : Int) (s : ByteArray) (x y : Int) (i : Nat) : Int := dotF W H s (x - 1) (y + (i : Int))
def aboveK (W H : Int) (s : ByteArray) (x y : Int) (k : Nat) : List Int := if 0 < y then listF k (aboveF W H s x y) else []
def leftK (W H : Int) (s : ByteArray) (x y : Int) (k : Nat) : List Int := if 0 < x then listF k (leftF W H s x y) else []
def cornerK (W H : Int) (s : ByteArray) (x y : Int) : Int := if 0 < x ∧ 0 < y then dotF W H s (x - 1) (y - 1) else -1
def fitsB (W H : Int) (s : ByteArray) (x y : Int) : Bool := picB W H s && decide (Int.tmod x 8 = 0) && decide (Int.tmod y 8 = 0) && inRB W H x y 8 8
theorem fitsB_iff {W H : Int} {s : ByteArray} {x y : Int} : fitsB W H s x y = true ↔ picB W H s = true ∧ Int.tmod x 8 = 0 ∧ Int.tmod y 8 = 0 ∧ inRB W H x y 8 8 = true := by
  simp [fitsB, and_assoc]
theorem listF_succ (f : Nat → Int) (k : Nat) : listF (k + 1) f = listF k f ++ [f k] := by simp [listF, List.range_succ]
theorem aboveK_zero (W H : Int) (s : ByteArray) (x y : Int) : aboveK W H s x y 0 = [] := by unfold aboveK; split <;> rfl
theorem leftK_zero (W H : Int) (s : ByteArray) (x y : Int) : leftK W H s x y 0 = [] := by unfold leftK; split <;> rfl
theorem aboveK_succ {W H : Int} {s : ByteArray} {x y : Int} (h : 0 < y) (k : Nat) : aboveK W H s x y (k + 1) = aboveK W H s x y k ++ [aboveF W H s x y k] := by unfold aboveK; rw [if_pos h, if_pos h, listF_succ]
theorem leftK_succ {W H : Int} {s : ByteArray} {x y : Int} (h : 0 < x) (k : Nat) : leftK W H s x y (k + 1) = leftK W H s x y k ++ [leftF W H s x y k] := by unfold leftK; rw [if_pos h, if_pos h, listF_succ]
theorem aboveK_no {W H : Int} {s : ByteArray} {x y : Int} (h : ¬ 0 < y) (k : Nat) : aboveK W H s x y k = [] := by unfold aboveK; rw [if_neg h]
theorem leftK_no {W H : Int} {s : ByteArray} {x y : Int} (h : ¬ 0 < x) (k : Nat) : leftK W H s x y k = [] := by unfold leftK; rw [if_neg h]
theorem aboveK_len (W H : Int) (s : ByteArray) (x y : Int) (k : Nat) : (aboveK W H s x y k).length ≤ k := by unfold aboveK; split <;> simp [listF]
theorem leftK_len (W H : Int) (s : ByteArray) (x y : Int) (k : Nat) : (leftK W H s x y k).length ≤ k := by unfold leftK; split <;> simp [listF]

theorem own_form {w : World} {B e s n : Nat} {v : Value} {xs : List Value} (h : w.ownsRow B e s v n xs) : ∃ a m c, v = .slice a m c := by
  rcases h.2 with ⟨rfl, _⟩ | ⟨g, cap, cur, rfl, _⟩
  · exact ⟨_, _, _, rfl⟩
  · exact ⟨_, _, _, rfl⟩
/-- Two rows of numbers that grow beside one another, beside the block of the struct that holds them. -/
structure EdgRows (w : World) (B ge : Nat) (v1 v2 : Value) (xs ys : List Int) : Prop where
  one : w.ownsRow B 3 1 v1 xs.length (xs.map (Value.int .i64))
  two : w.ownsRow B 3 1 v2 ys.length (ys.map (Value.int .i64))
  away1 : v1.ownBlock ≠ some ge
  away2 : v2.ownBlock ≠ some ge
  apart : ∀ k, v1.ownBlock = some k → v2.ownBlock ≠ some k
theorem EdgRows.below {w w' : World} {B ge : Nat} {v1 v2 : Value} {xs ys : List Int} (h : EdgRows w B ge v1 v2 xs ys) (hb : Below w.heap.size w w') : EdgRows w' B ge v1 v2 xs ys :=
  ⟨owned_below h.one hb, owned_below h.two hb, h.away1, h.away2, h.apart⟩
theorem EdgRows.grew {w w' : World} {B ge : Nat} {v1 v2 : Value} {xs ys : List Int} (h : EdgRows w B ge v1 v2 xs ys) (hg : w.grownBy w' (some ge)) : EdgRows w' B ge v1 v2 xs ys :=
  ⟨h.one.kept hg (.inr h.away1), h.two.kept hg (.inr h.away2), h.away1, h.away2, h.apart⟩
theorem EdgRows.apart' {w : World} {B ge : Nat} {v1 v2 : Value} {xs ys : List Int} (h : EdgRows w B ge v1 v2 xs ys) : ∀ k, v2.ownBlock = some k → v1.ownBlock ≠ some k := fun k h2 h1 => h.apart k h1 h2
theorem EdgRows.add1 {w w' : World} {B ge gg cp : Nat} {v1 v2 : Value} {xs ys : List Int} {d : Int} (h : EdgRows w B ge v1 v2 xs ys) (hge : ge < w.heap.size)
    (h1 : w'.ownsRow B 3 1 (.slice (some ⟨gg, 0, none⟩) (xs.length + 1) cp) (xs.length + 1) (xs.map (Value.int .i64) ++ [.int .i64 d])) (hg : w.grownBy w' v1.ownBlock) (hat : v1.ownBlock = some gg ∨ gg = w.heap.size) :
    EdgRows w' B ge (.slice (some ⟨gg, 0, none⟩) (xs.length + 1) cp) v2 (xs ++ [d]) ys := by
  refine ⟨by simpa using h1, h.two.kept hg ?_, ?_, h.away2, ?_⟩
  · cases hv : v2.ownBlock with
    | none => exact .inl rfl
    | some k => exact .inr fun e => h.apart k e.symm hv
  · intro e
    have e' : gg = ge := Option.some.inj e
    rcases hat with ha | ha
    · exact h.away1 (by rw [ha, e'])
    · omega
  · intro k e h2
    have e' : gg = k := Option.some.inj e
    rcases hat with ha | ha
    · exact h.apart k (by rw [ha, e']) h2
    · have := (h.two.lt k h2).2; omega
theorem EdgRows.add2 {w w' : World} {B ge gg cp : Nat} {v1 v2 : Value} {xs ys : List Int} {d : Int} (h : EdgRows w B ge v1 v2 xs ys) (hge : ge < w.heap.size)
    (h1 : w'.ownsRow B 3 1 (.slice (some ⟨gg, 0, none⟩) (ys.length + 1) cp) (ys.length + 1) (ys.map (Value.int .i64) ++ [.int .i64 d])) (hg : w.grownBy w' v2.ownBlock) (hat : v2.ownBlock = some gg ∨ gg = w.heap.size) :
    EdgRows w' B ge v1 (.slice (some ⟨gg, 0, none⟩) (ys.length + 1) cp) xs (ys ++ [d]) := by
  refine ⟨h.one.kept hg ?_, by simpa using h1, h.away1, ?_, ?_⟩
  · cases hv : v1.ownBlock with
    | none => exact .inl rfl
    | some k => exact .inr fun e => h.apart k hv e.symm
  · intro e
    have e' : gg = ge := Option.some.inj e
    rcases hat with ha | ha
    · exact h.away2 (by rw [ha, e'])
    · omega
  · intro k h1' e
    have e' : gg = k := Option.some.inj e
    rcases hat with ha | ha
    · exact h.apart k h1' (by rw [ha, e'])
    · have := (h.one.lt k h1').2; omega
theorem EdgRows.low {w w' : World} {B ge g : Nat} {v1 v2 : Value} {xs ys : List Int} (h : EdgRows w B ge v1 v2 xs ys) (hg : w.grownBy w' (some g)) (hlt : g < B) : EdgRows w' B ge v1 v2 xs ys :=
  ⟨h.one.kept hg (.inr (fun e => by have := (h.one.lt g e).1; omega)), h.two.kept hg (.inr (fun e => by have := (h.two.lt g e).1; omega)), h.away1, h.away2, h.apart⟩
theorem EdgRows.mono {w : World} {B B' ge : Nat} {v1 v2 : Value} {xs ys : List Int} (h : EdgRows w B ge v1 v2 xs ys) (hB : B' ≤ B) : EdgRows w B' ge v1 v2 xs ys :=
  ⟨own_mono h.one hB, own_mono h.two hB, h.away1, h.away2, h.apart⟩
end Go.Proofs.Ytkakiollhhmmaaa

namespace Go.Proofs.Ytkakiollhhmmaaa
open Go.RowKit
set_option linter.unusedVariables false

theorem own_slice {w : World} {B e s n : Nat} {v : Value} {xs : List Value} (h : w.ownsRow B e s v n xs) : ∃ a c, v = .slice a n c := by
  rcases h.2 with ⟨rfl, rfl⟩ | ⟨g, cap, cur, rfl, _⟩
  · exact ⟨_, _, rfl⟩
  · exact ⟨_, _, rfl⟩
theorem own_grown {w w' : World} {B e s n : Nat} {v u : Value} {xs : List Value} (h : w.ownsRow B e s v n xs) (hg : w.grownBy w' u.ownBlock) (hne : ∀ k, u.ownBlock = some k → v.ownBlock ≠ some k) : w'.ownsRow B e s v n xs := by
  refine h.kept hg ?_
  cases hv : v.ownBlock with
  | none => exact .inl rfl
  | some k => exact .inr fun e => hne k e.symm hv
/-- Marked, a list has the marks, and its block is where it was. -/
theorem EdgRows.mark1 {w w' : World} {B ge c : Nat} {a : Option Addr} {v2 : Value} {xs ys zs : List Int} (h : EdgRows w B ge (.slice a xs.length c) v2 xs ys) (hl : zs.length = xs.length) (h1 : w'.ownsRow B 3 1 (.slice a xs.length c) xs.length (zs.map (Value.int .i64))) (hg : w.grownBy w' (Value.slice a xs.length c).ownBlock) :
    EdgRows w' B ge (.slice a xs.length c) v2 zs ys :=
  ⟨by rw [hl]; exact h1, own_grown h.two hg h.apart, h.away1, h.away2, h.apart⟩
theorem EdgRows.mark2 {w w' : World} {B ge c : Nat} {a : Option Addr} {v1 : Value} {xs ys zs : List Int} (h : EdgRows w B ge v1 (.slice a ys.length c) xs ys) (hl : zs.length = ys.length) (h1 : w'.ownsRow B 3 1 (.slice a ys.length c) ys.length (zs.map (Value.int .i64))) (hg : w.grownBy w' (Value.slice a ys.length c).ownBlock) :
    EdgRows w' B ge v1 (.slice a ys.length c) xs zs :=
  ⟨own_grown h.one hg h.apart', by rw [hl]; exact h1, h.away1, h.away2, h.apart⟩

end Go.Proofs.Ytkakiollhhmmaaa

namespace Go.Proofs.Ytkakiollhhmmaaa
open Go.RowKit
set_option linter.unusedVariables false

theorem rep_getD {n j : Nat} (v : Int) (h : j < n) : (List.replicate n v).getD j 0 = v := by
  rw [List.getD_eq_getElem?_getD, List.getElem?_eq_getElem (by rw [List.length_replicate]; exact h)]
  simp
theorem rep_succ (k : Nat) (v : Int) : List.replicate k v ++ [v] = List.replicate (k + 1) v := by
  rw [List.replicate_succ']
theorem sumN_rep (v : Int) : ∀ k : Nat, k ≤ 8 → dotSum (List.replicate 8 v) k = (k : Int) * v
  | 0, _ => by rw [sumN_zero]; simp
  | k + 1, h => by
    rw [sumN_succ _ k (by rw [List.length_replicate]; omega), sumN_rep v k (by omega), rep_getD v (by omega)]
    push_cast
    rw [Int.add_mul, Int.one_mul]
theorem edges_cst {v : Int} (h0 : 0 ≤ v) (h1 : v ≤ 255) : edgesB (List.replicate 8 v) (List.replicate 8 v) v = true := by
  have hd : dotsB (List.replicate 8 v) = true := dotsB_iff.2 (fun i hi => by
    rw [List.length_replicate] at hi
    rw [rep_getD v hi]; exact ⟨h0, h1⟩)
  have he : edgeB (List.replicate 8 v) = true := edgeB_iff.2 ⟨.inr (List.length_replicate), hd⟩
  exact edgesB_iff.2 ⟨he, he, by omega, h1⟩
theorem fillF_cst (v : Int) {j : Nat} (h : j < 8) : fillF (List.replicate 8 v) j = v := by
  unfold fillF
  rw [if_neg (by rw [List.length_replicate]; decide), rep_getD v h]
theorem midF_cst (v : Int) : midF (List.replicate 8 v) (List.replicate 8 v) = v := by
  unfold midF
  rw [List.length_replicate, if_neg (by decide), sumN_rep v 8 (Nat.le_refl _)]
  simp only [show ((8 + 8 : Nat) : Int) = 16 from rfl, show ((8 : Nat) : Int) = 8 from rfl]
  omega
theorem gueF_cst {v : Int} (h0 : 0 ≤ v) (h1 : v ≤ 255) (m : Nat) {i : Nat} (hi : i < 64) : gueF m (List.replicate 8 v) (List.replicate 8 v) v i = v := by
  unfold gueF
  rw [midF_cst, fillF_cst v (by omega), fillF_cst v (by omega)]
  have hcn : cornF v = v := by unfold cornF; rw [if_neg (by omega)]
  rw [hcn, brF_id (by omega)]
  split
  · rfl
  · split
    · rfl
    · split
      · rfl
      · omega
theorem gue_len {xs ys : List Int} {c : Int} (h : edgesB xs ys c = true) {m : Nat} (hm : m < 4) : (gueL (m : Int) xs ys c).length = 64 := by
  rw [gueL_of h (by omega) (by omega), listF_length]
theorem gue_dot {xs ys : List Int} {c : Int} (h : edgesB xs ys c = true) {m : Nat} (hm : m < 4) {i : Nat} (hi : i < 64) : 0 ≤ (gueL (m : Int) xs ys c).getD i 0 ∧ (gueL (m : Int) xs ys c).getD i 0 ≤ 255 := by
  rw [gueL_of h (by omega) (by omega), listF_get _ hi]
  exact gueF_in h _ hi
theorem gue_cst {v : Int} (h0 : 0 ≤ v) (h1 : v ≤ 255) {m : Nat} (hm : m < 4) {i : Nat} (hi : i < 64) : (gueL (m : Int) (List.replicate 8 v) (List.replicate 8 v) v).getD i 0 = v := by
  rw [gueL_of (edges_cst h0 h1) (by omega) (by omega), listF_get _ hi]
  exact gueF_cst h0 h1 _ hi
theorem edges_len {xs ys : List Int} {c : Int} (h : edgesB xs ys c = true) : xs.length ≤ 8 ∧ ys.length ≤ 8 := by
  obtain ⟨h1, h2, _⟩ := edgesB_iff.1 h
  have := (edgeB_iff.1 h1).1
  have := (edgeB_iff.1 h2).1
  omega
/-- The program's guess of right edges: 64 dots. -/
theorem guess_call {xs ys : List Int} {c : Int} (h : edgesB xs ys c = true) {m : Nat} (hm : m < 4) (a1 a2 : Option Addr) (c1 c2 n1 n2 : Nat) (e1 : xs.length = n1) (e2 : ys.length = n2) (w : World) (h1 : Ints w a1 xs) (h2 : Ints w a2 ys) :
    Calls Try.prog 12 #[.int .i64 (m : Int), edgV a1 n1 c1 a2 n2 c2 c] w fun e w' => (∃ p q, e = .returned (.slice p 64 q) ∧ Ints w' p (gueL (m : Int) xs ys c)) ∧ Below w.heap.size w w' := by
  subst e1 e2
  obtain ⟨l1, l2⟩ := edges_len h
  refine (implGuessOf (m : Int) a1 a2 c1 c2 xs ys c w h1 h2 (by unfold maxLen; omega) (by unfold maxLen; omega)).mono ?_
  rintro e w' ⟨⟨v, rfl, ho⟩, hb⟩
  obtain ⟨p, q, rfl⟩ := own_slice ho
  have hi := owned_at ho
  exact ⟨⟨p, q, by rw [gue_len h hm], hi⟩, hb⟩
theorem ok_call {xs ys : List Int} {c : Int} (h : edgesB xs ys c = true) (a1 a2 : Option Addr) (c1 c2 n1 n2 : Nat) (e1 : xs.length = n1) (e2 : ys.length = n2) (w : World) (h1 : Ints w a1 xs) (h2 : Ints w a2 ys) :
    Calls Try.prog 25 #[edgV a1 n1 c1 a2 n2 c2 c] w fun e w' => e = .returned (.bool true) ∧ Below w.heap.size w w' := by
  subst e1 e2
  obtain ⟨l1, l2⟩ := edges_len h
  have := implEdgesOk a1 a2 c1 c2 xs ys c w h1 h2 (by unfold maxLen; omega) (by unfold maxLen; omega)
  rwa [h] at this
end Go.Proofs.Ytkakiollhhmmaaa
