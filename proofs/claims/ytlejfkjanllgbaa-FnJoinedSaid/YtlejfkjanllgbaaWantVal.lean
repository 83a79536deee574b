/-
  Drawn dots with their values: the walk of spec.DrawWant.
-/
import Derived.Test.YtlejfkjanllgbaaDotsDraw
import Derived.Test.YtlejfkjanllgbaaEdgeMath
namespace Go.Proofs.Ytlejfkjanllgbaa
open Go.RowKit
set_option linter.unusedVariables false
set_option maxRecDepth 20000

def dW (zs : List Int) : List Int := byteL (strOfNums (dotsF zs 64 (newF zs)).1)
theorem dW_len (zs : List Int) : (dW zs).length = 64 := by unfold dW byteL; rw [listF_length, strOfNums_size, dotsF_len]
theorem dW_want (zs : List Int) : wantB (dW zs) = true := by
  have h : dotsB (dW zs) = true := by
    rw [dotsB_iff]
    intro i hi
    rw [dW_len] at hi
    unfold dW byteL
    rw [listF_get _ (by rw [strOfNums_size, dotsF_len]; exact hi)]
    exact bAt_in _ _
  unfold wantB
  rw [dW_len, h]; rfl
set_option maxHeartbeats 1600000 in
theorem drawWant_val (a : Option Addr) (cap B : Nat) (zs : List Int) (w : World) (hc : CodeV w B a zs) (hB : B ≤ w.heap.size) :
    Calls Try.prog 7 #[.slice a zs.length cap] w fun e w' => (∃ p q, e = .returned (.slice p 64 q) ∧ Ints w' p (dW zs)) ∧ Below w.heap.size w w' := by
  have HN : Hid (Calls Try.prog 20 #[.slice a zs.length cap] w fun e w'' => e = .returned (.pointer (some ⟨w.heap.size, 0, none⟩)) ∧ CurV w'' w.heap.size a zs.length (newF zs) ∧ Below w.heap.size w w'') := new_val a cap B zs w hc hB
  have HD : Hid (∀ w', Below w.heap.size w w' → CurV w' w.heap.size a zs.length (newF zs) → Calls Try.prog 19 #[.pointer (some ⟨w.heap.size, 0, none⟩), .int .i64 64] w' fun e w'' => e = .returned (.string (strOfNums (dotsF zs 64 (newF zs)).1)) ∧ w'.grownBy w'' (some w.heap.size)) := fun w' hb q => (dots_val w.heap.size a zs B 64 (newF zs) w' (hc.below (hb.mono hB)) hB q (by decide)).mono (fun e w'' h => ⟨h.1, h.2.2⟩)
  have HI : Hid (∀ w', Calls Try.prog 18 #[.string (strOfNums (dotsF zs 64 (newF zs)).1)] w' fun e w'' => (∃ p q, e = .returned (.slice p 64 q) ∧ Ints w'' p (dW zs)) ∧ Below w'.heap.size w' w'') := fun w' => by
    refine (ints_val (strOfNums (dotsF zs 64 (newF zs)).1) w' (by rw [strOfNums_size, dotsF_len]; decide)).mono ?_
    rintro e w'' ⟨⟨v, rfl, ho⟩, hb⟩
    obtain ⟨p, q, rfl, hi, _⟩ := ints_of_owns ho
    have hl : (byteL (strOfNums (dotsF zs 64 (newF zs)).1)).length = 64 := dW_len zs
    exact ⟨⟨p, q, by rw [hl], hi⟩, hb⟩
  generalize strOfNums (dotsF zs 64 (newF zs)).1 = s at *
  generalize dW zs = W at *
  generalize newF zs = S at *
  generalize hzl : zs.length = len at *
  clear hc hzl
  go_enter Try.func7, Try.ntmps7
  go_wp2_with fail
  refine HN.out.mono ?_
  rintro e u1 ⟨rfl, cv, hb⟩
  go_wp2_with fail
  refine (HD.out u1 hb cv).mono ?_
  rintro e u2 ⟨rfl, hk⟩
  have b2 : Below w.heap.size w u2 := hb.grown hk hb.size (fun k h => by cases h; exact Nat.le_refl _)
  clear hk hb cv
  go_wp2_with fail
  refine (HI.out u2).mono ?_
  rintro e u3 ⟨⟨p, q, rfl, hi⟩, hb⟩
  have b3 := b2.trans (hb.mono b2.size)
  clear hb b2
  go_wp2
  go_ret
  exact ⟨⟨p, q, rfl, hi⟩, b3⟩
end Go.Proofs.Ytlejfkjanllgbaa
