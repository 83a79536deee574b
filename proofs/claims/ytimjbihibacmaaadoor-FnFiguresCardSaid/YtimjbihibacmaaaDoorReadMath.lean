/-
  Plain facts on reading decimal figures back.
-/
import Derived.Test.YtimjbihibacmaaaDoorDecMath
import Derived.Lib.AtoiTie
import Derived.Lib.ItoaLen
namespace Go.Proofs.YtimjbihibacmaaaDoor
open Go.RowKit

theorem decFrom_snoc : ∀ (l : List UInt8) (acc n d : Nat) (b : UInt8), Lib.decFrom acc l = some n → Lib.digitVal b = some d → Lib.decFrom acc (l ++ [b]) = some (n * 10 + d)
  | [], acc, n, d, b, h, hd => by
    simp only [Lib.decFrom, Option.some.injEq] at h
    subst h
    simp [Lib.decFrom, hd]
  | a :: t, acc, n, d, b, h, hd => by
    simp only [Lib.decFrom, List.cons_append] at h ⊢
    cases ha : Lib.digitVal a with
    | none => simp [ha] at h
    | some e =>
      simp only [ha] at h ⊢
      exact decFrom_snoc t _ n d b h hd
theorem digitVal_fig (d : Nat) (h : d < 10) : Lib.digitVal (UInt8.ofNat (48 + d)) = some d := by
  have key : ∀ d : Fin 10, Lib.digitVal (UInt8.ofNat (48 + d.val)) = some d.val := by decide
  exact key ⟨d, h⟩
theorem decFrom_digits (u : Nat) : Lib.decFrom 0 (Lib.decDigits u) = some u := by
  induction u using Nat.strongRecOn with
  | ind u ih =>
    by_cases h : u < 10
    · rw [Lib.decDigits_one h]
      simp only [Lib.decFrom, digitVal_fig u h]
      simp
    · rw [Lib.decDigits, dif_neg h, decFrom_snoc _ 0 (u / 10) (u % 10) _ (ih (u / 10) (by omega)) (digitVal_fig _ (by omega))]
      congr 1; omega
theorem digits_ne (u : Nat) : Lib.decDigits u ≠ [] := by
  intro h
  have := Lib.nDigits_pos u
  rw [← Lib.decDigits_length, h] at this
  simp at this
theorem decNat_digits (u : Nat) : Lib.decNat (Lib.decDigits u) = some u := by
  unfold Lib.decNat
  rw [if_neg (by have := digits_ne u; simpa using this), decFrom_digits]
theorem digits_len (u : Nat) (h : u ≤ 1000000000) : (Lib.decDigits u).length ≤ 10 := by
  rw [Lib.decDigits_length]
  by_cases h10 : u = 1000000000
  · rw [h10, Lib.nDigits_unique 9 1000000000 (by decide) (by decide)]; omega
  · rcases Nat.lt_or_ge 10 (Lib.nDigits u) with hlt | hge
    · exfalso
      have : ∀ k u, u < 10 ^ (k + 1) → Lib.nDigits u ≤ k + 1 := by
        intro k
        induction k with
        | zero => intro u hu; rw [Lib.nDigits_small (by simpa using hu)]; omega
        | succ k ih =>
          intro u hu
          by_cases hs : u < 10
          · rw [Lib.nDigits_small hs]; omega
          · rw [Lib.nDigits_big hs]
            have := ih (u / 10) (by rw [Nat.pow_succ] at hu; omega)
            omega
      have := this 8 u (by have : (10 : Nat) ^ (8 + 1) = 1000000000 := by decide
                           omega)
      omega
    · exact hge
/-- The number that a text tells as Decimal writes it, none where it tells none up to MaxNumber. -/
def readR (l : List UInt8) : Option Nat := match Lib.decNat l with
  | some n => if n ≤ 1000000000 ∧ Lib.decDigits n = l then some n else none
  | none => none
theorem readR_some {l : List UInt8} {n : Nat} (h1 : n ≤ 1000000000) (h2 : Lib.decDigits n = l) : readR l = some n := by
  unfold readR
  rw [← h2, decNat_digits]
  simp [h1]
theorem readR_spec {l : List UInt8} {n : Nat} (h : readR l = some n) : n ≤ 1000000000 ∧ Lib.decDigits n = l := by
  unfold readR at h
  cases hd : Lib.decNat l with
  | none => simp [hd] at h
  | some m =>
    simp only [hd] at h
    split at h
    · rename_i hc
      simp at h
      subst h
      exact hc
    · cases h
theorem readR_none {l : List UInt8} (h : ∀ n, n ≤ 1000000000 → Lib.decDigits n ≠ l) : readR l = none := by
  cases hr : readR l with
  | none => rfl
  | some n => have := readR_spec hr; exact absurd this.2 (h n this.1)
def readV (l : List UInt8) : Value := match readR l with
  | some n => .tuple #[.int .i64 n, .bool true]
  | none => .tuple #[.int .i64 0, .bool false]
theorem readV_no {l : List UInt8} (h : ∀ n, n ≤ 1000000000 → Lib.decDigits n ≠ l) : readV l = .tuple #[.int .i64 0, .bool false] := by
  unfold readV; rw [readR_none h]
theorem readV_yes {l : List UInt8} {n : Nat} (h1 : n ≤ 1000000000) (h2 : Lib.decDigits n = l) : readV l = .tuple #[.int .i64 n, .bool true] := by
  unfold readV; rw [readR_some h1 h2]
theorem readV_form (l : List UInt8) : ∃ (n : Int) (b : Bool), readV l = .tuple #[.int .i64 n, .bool b] := by
  unfold readV
  split
  · exact ⟨_, _, rfl⟩
  · exact ⟨_, _, rfl⟩
theorem atoi_digits {l : List UInt8} {n : Nat} (h1 : n ≤ 1000000000) (h2 : Lib.decDigits n = l) : Lib.atoiAll l = .ok (n : Int) := by
  have hl := digits_len n h1
  rw [h2] at hl
  rw [Lib.atoiAll_short l (by omega)]
  have hd : Lib.decNat l = some n := by rw [← h2, decNat_digits]
  have hf : Lib.decFrom 0 l = some n := by rw [← h2, decFrom_digits]
  cases l with
  | nil => exact absurd h2 (digits_ne n)
  | cons b r =>
    obtain ⟨d, hb⟩ := Lib.digit_of_decFrom (b :: r) 0 n hf 0 b rfl
    have hr : 48 ≤ b.toNat ∧ b.toNat ≤ 57 := by
      unfold Lib.digitVal at hb
      split at hb
      · assumption
      · cases hb
    have n45 : (b == 45) = false := by
      simp; intro h; subst h; simp at hr
    have n43 : (b == 43) = false := by
      simp; intro h; subst h; simp at hr
    simp [Lib.atoi, n45, n43, hd, Lib.NumEnd.ofOption]
end Go.Proofs.YtimjbihibacmaaaDoor
