/-
  impl.Scanned and impl.Unscanned of any list.
-/
import Derived.Test.YtknfcfbioabdnaaScanBack
namespace Go.Proofs.Ytknfcfbioabdnaa
open Go.RowKit
set_option linter.unusedVariables false
set_option maxRecDepth 20000

theorem implScanned (s : Int) (a : Option Addr) (cap : Nat) (xs : List Int) (w : World) (h : Ints w a xs) (hl : xs.length ≤ maxLen) :
    Calls Try.prog 14 #[.int .i64 s, .slice a xs.length cap] w fun e w' => (∃ v, e = .returned (.tuple #[v, .bool (scOk s xs)]) ∧ w'.ownsRow w.heap.size 3 1 v (scanL s xs).length ((scanL s xs).map (Value.int .i64))) ∧ Below w.heap.size w w' := by
  cases hb : scOk s xs with
  | true =>
    obtain ⟨h1, h2, h3⟩ := scOk_of hb
    have := implScanned_yes s.toNat h1 a cap xs w h h3
    rw [← h2] at this
    unfold scanL
    rw [if_pos hb, listF_length]
    exact this
  | false =>
    have CO := scanOver_any s a xs.length cap
    rw [show ((decide (s = 4) || decide (s = 8)) && decide ((xs.length : Int) = s * s)) = false from hb] at CO
    have HC : Hid (∀ w', Calls Try.prog 36 #[.int .i64 s, .slice a xs.length cap] w' (fun e w'' => e = .returned (.tuple #[.int .i64 s, .bool false]) ∧ w'' = w')) := fun w' => CO w' hl
    have HL : Hid (scanL s xs = []) := by unfold scanL; exact if_neg (by rw [hb]; decide)
    have cL := (Boxed.new w 24 (.slice a xs.length cap)).cell
    have h0 : Below w.heap.size w (w.alloc (.cells #[.slice a xs.length cap] 24)) := (Below.refl _ w).alloc (Nat.le_refl _) _
    have HB : Hid (Below w.heap.size w ((w.alloc (.cells #[.slice a xs.length cap] 24)).alloc (.cells #[] 3))) := h0.alloc h0.size _
    have HO' : Hid (((w.alloc (.cells #[.slice a xs.length cap] 24)).alloc (.cells #[] 3)).ownsRow w.heap.size 3 1 (.slice (some ⟨w.heap.size + 1, 0, none⟩) 0 0) 0 (([] : List Int).map (Value.int .i64))) := by
      have HO := own_none (w.alloc (.cells #[.slice a xs.length cap] 24)) (B := w.heap.size) (by simp)
      rw [World.size_alloc] at HO
      exact HO
    clear CO hb h hl h0
    go_enter Try.func14, Try.ntmps14
    go_wp2_with (go_at_call 36; refine (HC.out _).mono ?_; rintro e w' ⟨rfl, hw⟩; subst w')
    go_ret2
    rw [HL.out]
    exact ⟨⟨_, rfl, HO'.out⟩, HB.out⟩
theorem implUnscanned (s : Int) (a : Option Addr) (cap : Nat) (xs : List Int) (w : World) (h : Ints w a xs) (hl : xs.length ≤ maxLen) :
    Calls Try.prog 15 #[.int .i64 s, .slice a xs.length cap] w fun e w' => (∃ v, e = .returned (.tuple #[v, .bool (scOk s xs)]) ∧ w'.ownsRow w.heap.size 3 1 v (backL s xs).length ((backL s xs).map (Value.int .i64))) ∧ Below w.heap.size w w' := by
  cases hb : scOk s xs with
  | true =>
    obtain ⟨h1, h2, h3⟩ := scOk_of hb
    have := implUnscanned_yes s.toNat h1 a cap xs w h h3
    rw [← h2] at this
    unfold backL
    rw [if_pos hb, listF_length]
    exact this
  | false =>
    have CO := scanOver_any s a xs.length cap
    rw [show ((decide (s = 4) || decide (s = 8)) && decide ((xs.length : Int) = s * s)) = false from hb] at CO
    have HC : Hid (∀ w', Calls Try.prog 36 #[.int .i64 s, .slice a xs.length cap] w' (fun e w'' => e = .returned (.tuple #[.int .i64 s, .bool false]) ∧ w'' = w')) := fun w' => CO w' hl
    have HL : Hid (backL s xs = []) := by unfold backL; exact if_neg (by rw [hb]; decide)
    have cL := (Boxed.new w 24 (.slice a xs.length cap)).cell
    have h0 : Below w.heap.size w (w.alloc (.cells #[.slice a xs.length cap] 24)) := (Below.refl _ w).alloc (Nat.le_refl _) _
    have HB : Hid (Below w.heap.size w ((w.alloc (.cells #[.slice a xs.length cap] 24)).alloc (.cells #[] 3))) := h0.alloc h0.size _
    have HO' : Hid (((w.alloc (.cells #[.slice a xs.length cap] 24)).alloc (.cells #[] 3)).ownsRow w.heap.size 3 1 (.slice (some ⟨w.heap.size + 1, 0, none⟩) 0 0) 0 (([] : List Int).map (Value.int .i64))) := by
      have HO := own_none (w.alloc (.cells #[.slice a xs.length cap] 24)) (B := w.heap.size) (by simp)
      rw [World.size_alloc] at HO
      exact HO
    clear CO hb h hl h0
    go_enter Try.func15, Try.ntmps15
    go_wp2_with (go_at_call 36; refine (HC.out _).mono ?_; rintro e w' ⟨rfl, hw⟩; subst w')
    go_ret2
    rw [HL.out]
    exact ⟨⟨_, rfl, HO'.out⟩, HB.out⟩
end Go.Proofs.Ytknfcfbioabdnaa
