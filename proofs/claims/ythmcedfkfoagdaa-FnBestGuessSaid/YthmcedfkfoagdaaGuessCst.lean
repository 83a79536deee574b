/-
  Guesses of one and the same dot, and guesses as calls with their dots.
-/
import Derived.Test.YthmcedfkfoagdaaGuessOfKit
import Derived.Test.YthmcedfkfoagdaaEdgeMark
namespace Go.Proofs.Ythmcedfkfoagdaa
open Go.RowKit
set_option linter.unusedVariables false
set_option maxRecDepth 20000

theorem rep_getD {n j : Nat} (v : Int) (h : j < n) : (List.replicate n v).getD j 0 = v := by
  rw [List.getD_eq_getElem?_getD, List.getElem?_eq_getElem (by rw [List.length_replicate]; exact h)]
  simp
theorem rep_succ (k : Nat) (v : Int) : List.replicate k v ++ [v] = List.replicate (k + 1) v := by
  rw [List.replicate_succ']
theorem sumN_rep (v : Int) : ∀ k : Nat, k ≤ 8 → sumN (List.replicate 8 v) k = (k : Int) * v
  | 0, _ => by rw [sumN_zero]; simp
  | k + 1, h => by
    rw [sumN_succ _ k (by rw [List.length_replicate]; omega), sumN_rep v k (by omega), rep_getD v (by omega)]
    push_cast
    rw [Int.add_mul, Int.one_mul]
theorem edges_cst {v : Int} (h0 : 0 ≤ v) (h1 : v ≤ 255) : edgesB (List.replicate 8 v) (List.replicate 8 v) v = true := by
  have hd : dotsB (List.replicate 8 v) = true := dotsB_iff.2 (fun i hi => by
    rw [List.length_replicate] at hi
    rw [rep_getD v hi]; exact ⟨h0, h1⟩)
  have he : edgeB (List.replicate 8 v) = true := edgeB_iff.2 ⟨.inr (List.length_replicate), hd⟩
  exact edgesB_iff.2 ⟨he, he, by omega, h1⟩
theorem fillF_cst (v : Int) {j : Nat} (h : j < 8) : fillF (List.replicate 8 v) j = v := by
  unfold fillF
  rw [if_neg (by rw [List.length_replicate]; decide), rep_getD v h]
theorem midF_cst (v : Int) : midF (List.replicate 8 v) (List.replicate 8 v) = v := by
  unfold midF
  rw [List.length_replicate, if_neg (by decide), sumN_rep v 8 (Nat.le_refl _)]
  simp only [show ((8 + 8 : Nat) : Int) = 16 from rfl, show ((8 : Nat) : Int) = 8 from rfl]
  omega
theorem gueF_cst {v : Int} (h0 : 0 ≤ v) (h1 : v ≤ 255) (m : Nat) {i : Nat} (hi : i < 64) : gueF m (List.replicate 8 v) (List.replicate 8 v) v i = v := by
  unfold gueF
  rw [midF_cst, fillF_cst v (by omega), fillF_cst v (by omega)]
  have hcn : cornF v = v := by unfold cornF; rw [if_neg (by omega)]
  rw [hcn, brF_id (by omega)]
  split
  · rfl
  · split
    · rfl
    · split
      · rfl
      · omega
theorem gue_len {xs ys : List Int} {c : Int} (h : edgesB xs ys c = true) {m : Nat} (hm : m < 4) : (gueL (m : Int) xs ys c).length = 64 := by
  rw [gueL_of h (by omega) (by omega), listF_length]
theorem gue_dot {xs ys : List Int} {c : Int} (h : edgesB xs ys c = true) {m : Nat} (hm : m < 4) {i : Nat} (hi : i < 64) : 0 ≤ (gueL (m : Int) xs ys c).getD i 0 ∧ (gueL (m : Int) xs ys c).getD i 0 ≤ 255 := by
  rw [gueL_of h (by omega) (by omega), listF_get _ hi]
  exact gueF_in h _ hi
theorem gue_cst {v : Int} (h0 : 0 ≤ v) (h1 : v ≤ 255) {m : Nat} (hm : m < 4) {i : Nat} (hi : i < 64) : (gueL (m : Int) (List.replicate 8 v) (List.replicate 8 v) v).getD i 0 = v := by
  rw [gueL_of (edges_cst h0 h1) (by omega) (by omega), listF_get _ hi]
  exact gueF_cst h0 h1 _ hi
theorem edges_len {xs ys : List Int} {c : Int} (h : edgesB xs ys c = true) : xs.length ≤ 8 ∧ ys.length ≤ 8 := by
  obtain ⟨h1, h2, _⟩ := edgesB_iff.1 h
  have := (edgeB_iff.1 h1).1
  have := (edgeB_iff.1 h2).1
  omega
/-- The program's guess of right edges: 64 dots. -/
theorem guess_call {xs ys : List Int} {c : Int} (h : edgesB xs ys c = true) {m : Nat} (hm : m < 4) (a1 a2 : Option Addr) (c1 c2 n1 n2 : Nat) (e1 : xs.length = n1) (e2 : ys.length = n2) (w : World) (h1 : Ints w a1 xs) (h2 : Ints w a2 ys) :
    Calls Try.prog 13 #[.int .i64 (m : Int), edgV a1 n1 c1 a2 n2 c2 c] w fun e w' => (∃ p q, e = .returned (.slice p 64 q) ∧ Ints w' p (gueL (m : Int) xs ys c)) ∧ Below w.heap.size w w' := by
  subst e1 e2
  obtain ⟨l1, l2⟩ := edges_len h
  refine (implGuessOf (m : Int) a1 a2 c1 c2 xs ys c w h1 h2 (by unfold maxLen; omega) (by unfold maxLen; omega)).mono ?_
  rintro e w' ⟨⟨v, rfl, ho⟩, hb⟩
  obtain ⟨p, q, rfl⟩ := own_slice ho
  have hi := owned_at ho
  exact ⟨⟨p, q, by rw [gue_len h hm], hi⟩, hb⟩
theorem ok_call {xs ys : List Int} {c : Int} (h : edgesB xs ys c = true) (a1 a2 : Option Addr) (c1 c2 n1 n2 : Nat) (e1 : xs.length = n1) (e2 : ys.length = n2) (w : World) (h1 : Ints w a1 xs) (h2 : Ints w a2 ys) :
    Calls Try.prog 14 #[edgV a1 n1 c1 a2 n2 c2 c] w fun e w' => e = .returned (.bool true) ∧ Below w.heap.size w w' := by
  subst e1 e2
  obtain ⟨l1, l2⟩ := edges_len h
  have := implEdgesOk a1 a2 c1 c2 xs ys c w h1 h2 (by unfold maxLen; omega) (by unfold maxLen; omega)
  rwa [h] at this
end Go.Proofs.Ythmcedfkfoagdaa
