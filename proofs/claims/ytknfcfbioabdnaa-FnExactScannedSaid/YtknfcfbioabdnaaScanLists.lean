/-
  spec.Scanned and spec.Unscanned of any list.
-/
import Derived.Test.YtknfcfbioabdnaaScanSpecs
namespace Go.Proofs.Ytknfcfbioabdnaa
open Go.RowKit
set_option linter.unusedVariables false
set_option maxRecDepth 20000

theorem specScanned_no (s : Int) (a : Option Addr) (n cap : Nat) (w : World) (hn : n ≤ maxLen) (h : ¬ (s = 4 ∧ n = 16 ∨ s = 8 ∧ n = 64)) :
    Calls Try.prog 23 #[.int .i64 s, .slice a n cap] w fun e w' => e = .returned (.tuple #[.slice (some ⟨w.heap.size, 0, none⟩) 0 0, .bool false]) ∧ w' = w.alloc (.cells #[] 3) := by
  unfold maxLen at hn
  by_cases h4 : s = 4
  · subst h4
    have hq : ((n : Int) == 16) = false := by rw [beq_eq_false_iff_ne]; omega
    have hq' : (n == 16) = false := by rw [beq_eq_false_iff_ne]; omega
    clear h
    go_enter Try.func23, Try.ntmps23
    go_wp2
    go_ret2
    exact ⟨rfl, rfl⟩
  · by_cases h8 : s = 8
    · subst h8
      have hq : ((n : Int) == 64) = false := by rw [beq_eq_false_iff_ne]; omega
      have hq' : (n == 64) = false := by rw [beq_eq_false_iff_ne]; omega
      clear h
      go_enter Try.func23, Try.ntmps23
      go_wp2
      go_ret2
      exact ⟨rfl, rfl⟩
    · have q4 : (s == 4) = false := by rw [beq_eq_false_iff_ne]; exact h4
      have q8 : (s == 8) = false := by rw [beq_eq_false_iff_ne]; exact h8
      clear h
      go_enter Try.func23, Try.ntmps23
      go_wp2
      go_ret2
      exact ⟨rfl, rfl⟩
theorem specScanned (s : Int) (a : Option Addr) (cap : Nat) (xs : List Int) (w : World) (h : Ints w a xs) (hl : xs.length ≤ maxLen) :
    Calls Try.prog 23 #[.int .i64 s, .slice a xs.length cap] w fun e w' => (∃ v, e = .returned (.tuple #[v, .bool (scOk s xs)]) ∧ w'.ownsRow w.heap.size 3 1 v (scanL s xs).length ((scanL s xs).map (Value.int .i64))) ∧ Below w.heap.size w w' := by
  cases hb : scOk s xs with
  | true =>
    unfold scanL
    rw [if_pos hb, listF_length]
    have hb' := hb
    unfold scOk at hb'
    simp only [Bool.and_eq_true, Bool.or_eq_true, decide_eq_true_eq] at hb'
    obtain ⟨h1, h2⟩ := hb'
    rcases h1 with rfl | rfl
    · have hN : xs.length = 16 := by omega
      obtain ⟨b, off, rfl, hg, HC⟩ := ints_some h (by omega)
      rw [hN] at HC ⊢
      exact specScanned_4 b off cap xs w hg HC
    · have hN : xs.length = 64 := by omega
      obtain ⟨b, off, rfl, hg, HC⟩ := ints_some h (by omega)
      rw [hN] at HC ⊢
      exact specScanned_8 b off cap xs w hg HC
  | false =>
    have HL : scanL s xs = [] := by unfold scanL; exact if_neg (by rw [hb]; decide)
    refine (specScanned_no s a xs.length cap w hl (fun h => ?_)).mono ?_
    · unfold scOk at hb
      rcases h with ⟨rfl, h⟩ | ⟨rfl, h⟩
      · rw [h] at hb; exact absurd hb (by decide)
      · rw [h] at hb; exact absurd hb (by decide)
    · rintro e w' ⟨rfl, rfl⟩
      rw [HL]
      exact ⟨⟨_, rfl, own_none w (Nat.le_refl _)⟩, (Below.refl _ _).alloc (Nat.le_refl _) _⟩
theorem specUnscanned_no (s : Int) (a : Option Addr) (n cap : Nat) (w : World) (hn : n ≤ maxLen) (h : ¬ (s = 4 ∧ n = 16 ∨ s = 8 ∧ n = 64)) :
    Calls Try.prog 28 #[.int .i64 s, .slice a n cap] w fun e w' => e = .returned (.tuple #[.slice (some ⟨w.heap.size, 0, none⟩) 0 0, .bool false]) ∧ w' = w.alloc (.cells #[] 3) := by
  unfold maxLen at hn
  by_cases h4 : s = 4
  · subst h4
    have hq : ((n : Int) == 16) = false := by rw [beq_eq_false_iff_ne]; omega
    have hq' : (n == 16) = false := by rw [beq_eq_false_iff_ne]; omega
    clear h
    go_enter Try.func28, Try.ntmps28
    go_wp2
    go_ret2
    exact ⟨rfl, rfl⟩
  · by_cases h8 : s = 8
    · subst h8
      have hq : ((n : Int) == 64) = false := by rw [beq_eq_false_iff_ne]; omega
      have hq' : (n == 64) = false := by rw [beq_eq_false_iff_ne]; omega
      clear h
      go_enter Try.func28, Try.ntmps28
      go_wp2
      go_ret2
      exact ⟨rfl, rfl⟩
    · have q4 : (s == 4) = false := by rw [beq_eq_false_iff_ne]; exact h4
      have q8 : (s == 8) = false := by rw [beq_eq_false_iff_ne]; exact h8
      clear h
      go_enter Try.func28, Try.ntmps28
      go_wp2
      go_ret2
      exact ⟨rfl, rfl⟩
theorem specUnscanned (s : Int) (a : Option Addr) (cap : Nat) (xs : List Int) (w : World) (h : Ints w a xs) (hl : xs.length ≤ maxLen) :
    Calls Try.prog 28 #[.int .i64 s, .slice a xs.length cap] w fun e w' => (∃ v, e = .returned (.tuple #[v, .bool (scOk s xs)]) ∧ w'.ownsRow w.heap.size 3 1 v (backL s xs).length ((backL s xs).map (Value.int .i64))) ∧ Below w.heap.size w w' := by
  cases hb : scOk s xs with
  | true =>
    unfold backL
    rw [if_pos hb, listF_length]
    have hb' := hb
    unfold scOk at hb'
    simp only [Bool.and_eq_true, Bool.or_eq_true, decide_eq_true_eq] at hb'
    obtain ⟨h1, h2⟩ := hb'
    rcases h1 with rfl | rfl
    · have hN : xs.length = 16 := by omega
      obtain ⟨b, off, rfl, hg, HC⟩ := ints_some h (by omega)
      rw [hN] at HC ⊢
      exact specUnscanned_4 b off cap xs w hg HC
    · have hN : xs.length = 64 := by omega
      obtain ⟨b, off, rfl, hg, HC⟩ := ints_some h (by omega)
      rw [hN] at HC ⊢
      exact specUnscanned_8 b off cap xs w hg HC
  | false =>
    have HL : backL s xs = [] := by unfold backL; exact if_neg (by rw [hb]; decide)
    refine (specUnscanned_no s a xs.length cap w hl (fun h => ?_)).mono ?_
    · unfold scOk at hb
      rcases h with ⟨rfl, h⟩ | ⟨rfl, h⟩
      · rw [h] at hb; exact absurd hb (by decide)
      · rw [h] at hb; exact absurd hb (by decide)
    · rintro e w' ⟨rfl, rfl⟩
      rw [HL]
      exact ⟨⟨_, rfl, own_none w (Nat.le_refl _)⟩, (Below.refl _ _).alloc (Nat.le_refl _) _⟩
end Go.Proofs.Ytknfcfbioabdnaa
