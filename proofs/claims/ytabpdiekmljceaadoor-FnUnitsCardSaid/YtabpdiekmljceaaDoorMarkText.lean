/-
  The walk of laws.markText: what it answers hangs on its number alone.
-/
import Derived.Test.YtabpdiekmljceaaDoorFixKit
namespace Go.Proofs.YtabpdiekmljceaaDoor
open Go.RowKit
set_option linter.unusedVariables false

def mkF : Nat → Nat → List UInt8 → List UInt8
  | 0, _, acc => acc
  | f + 1, k, acc => if k = 0 then acc else mkF f (k / 10) (UInt8.ofNat (48 + k % 10) :: acc)
def markT (k : Nat) : ByteArray := ⟨(109 :: mkF k k []).toArray⟩
theorem mkF_step {f j : Nat} {acc : List UInt8} (hj : 0 < j) : mkF (f + 1) j acc = mkF f (j / 10) (UInt8.ofNat (48 + j % 10) :: acc) := by
  rw [mkF, if_neg (by omega)]
theorem mkF_end (f : Nat) (acc : List UInt8) : mkF f 0 acc = acc := by
  cases f with
  | zero => rfl
  | succ f => rw [mkF, if_pos rfl]
theorem conv_new {w : World} {x : Int} : (convert 22 9 (.slice (some ⟨w.heap.size, 0, none⟩) 1 1)).run Tryd.prog (w.alloc (.cells #[.int .u8 x] 5)) = .ok (.string (strOfNums [x])) (w.alloc (.cells #[.int .u8 x] 5)) := by
  have h : (w.alloc (.cells #[.int .u8 x] 5)).ownsRow 0 5 1 (.slice (some ⟨w.heap.size, 0, none⟩) 1 1) 1 ([x].map (Value.int .u8)) :=
    ⟨rfl, .inr ⟨w.heap.size, 1, #[.int .u8 x], rfl, Nat.zero_le _, heap_alloc_new w _, Nat.le_refl _, by unfold maxLen; omega, rfl, rfl⟩⟩
  exact convF h

theorem mk_str (j : Nat) (acc : List UInt8) : Value.string (strOfNums [48 + (j : Int) % 10] ++ ⟨acc.toArray⟩) = .string ⟨(UInt8.ofNat (48 + j % 10) :: acc).toArray⟩ := by
  congr 1
theorem mk_end (k : Nat) (acc : List UInt8) (h : acc = mkF k k []) : Ending.returned (Value.string ((⟨#[109]⟩ : ByteArray) ++ ⟨acc.toArray⟩)) = .returned (.string (markT k)) := by
  congr 2
  apply ByteArray.ext
  apply Array.ext'
  simp [markT, h]
set_option maxHeartbeats 400000 in
theorem markText_any (k : Nat) (w : World) (h1 : 1 ≤ k) (h2 : k ≤ 1000000000) :
    Calls Tryd.prog 27 #[.int .i64 k] w fun e w' => e = .returned (.string (markT k)) ∧ Below w.heap.size w w' := by
  have hk0 : ¬ k = 0 := by omega
  have hss : ∀ x, (strOfNums [x]).size = 1 := fun x => rfl
  go_enter Tryd.func27, Tryd.ntmps27
  go_wp2
  go_loopw [0, 3] (fun a o wr => ∃ (j f : Nat) (acc : List UInt8), a = .int .i64 j ∧ o = .string ⟨acc.toArray⟩ ∧ j ≤ f ∧ mkF f j acc = mkF k k [] ∧ acc.length + f ≤ k ∧ Below w.heap.size w wr)
    (fun a _ _ => (intOf a).toNat)
  case atStart => exact ⟨k, k, [], rfl, rfl, Nat.le_refl _, rfl, by simp, Below.refl _ _⟩
  case round =>
    obtain ⟨j, f, acc, rfl, rfl, hjf, hmk, hlen, hb⟩ := hrel
    have HM : Hid (mkF f j acc = mkF k k []) := hmk
    clear hmk
    by_cases hj : 0 < j
    · obtain ⟨f', rfl⟩ : ∃ f', f = f' + 1 := ⟨f - 1, by omega⟩
      have hcn : ∀ x, (convert 22 9 (.slice (some ⟨wr.heap.size, 0, none⟩) 1 1)).run Tryd.prog (wr.alloc (.cells #[.int .u8 x] 5)) = .ok (.string (strOfNums [x])) (wr.alloc (.cells #[.int .u8 x] 5)) := fun x => conv_new
      go_wp2
      go_roundw
      case rel =>
        refine ⟨j / 10, f', UInt8.ofNat (48 + j % 10) :: acc, by go_num, mk_str j acc, by omega, ?_, by simp; omega, hb.alloc hb.size _⟩
        rw [← HM.out, mkF_step hj]
      case measure => simp [intOf]; omega
    · obtain rfl : j = 0 := by omega
      have HE : Hid (acc = mkF k k []) := by have := HM.out; rw [mkF_end] at this; exact this
      go_wp2
      go_ret
      exact ⟨mk_end k acc HE.out, hb⟩
end Go.Proofs.YtabpdiekmljceaaDoor
