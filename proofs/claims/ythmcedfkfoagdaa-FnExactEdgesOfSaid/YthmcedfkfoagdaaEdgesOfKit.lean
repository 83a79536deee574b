/-
  What stands beside a square, of both: the walks of impl.EdgesOf, spec.l13Fits and spec.EdgesOf.
-/
import Derived.Test.YthmcedfkfoagdaaEdgesOfMath
import Derived.Test.YthmcedfkfoagdaaCropKit
import Derived.Test.YthmcedfkfoagdaaSqKit
import Derived.Test.YthmcedfkfoagdaaGuessKit
import Derived.Deep.RegionLaw
import Derived.Deep.CutRange
import Derived.Deep.AppendLies
namespace Go.Proofs.Ythmcedfkfoagdaa
open Go.RowKit
set_option linter.unusedVariables false
set_option maxRecDepth 20000

theorem World.grown_at (w : World) (g j : Nat) (v : Value) : w.grownBy (w.setCell ⟨g, j, none⟩ v) (some g) :=
  ⟨rfl, rfl, rfl, by simp [World.setCell], fun k hk hne => Below.heap_setCell w ⟨g, j, none⟩ v k (by intro e; exact hne (by rw [e]))⟩

def edgA (W H : Int) (s : ByteArray) (x y : Int) : List Int := if fitsB W H s x y = true then aboveK W H s x y 8 else []
def edgL (W H : Int) (s : ByteArray) (x y : Int) : List Int := if fitsB W H s x y = true then leftK W H s x y 8 else []
def edgC (W H : Int) (s : ByteArray) (x y : Int) : Int := if fitsB W H s x y = true then cornerK W H s x y else 0
theorem edg_no {W H : Int} {s : ByteArray} {x y : Int} (h : fitsB W H s x y = false) : edgA W H s x y = [] ∧ edgL W H s x y = [] ∧ edgC W H s x y = 0 := by
  simp [edgA, edgL, edgC, h]
theorem edg_yes {W H : Int} {s : ByteArray} {x y : Int} (h : fitsB W H s x y = true) : edgA W H s x y = aboveK W H s x y 8 ∧ edgL W H s x y = leftK W H s x y 8 ∧ edgC W H s x y = cornerK W H s x y := by
  simp [edgA, edgL, edgC, h]
theorem edgRows_none (w : World) (B ge : Nat) : EdgRows w B ge (.slice none 0 0) (.slice none 0 0) [] [] :=
  ⟨⟨rfl, .inl ⟨rfl, rfl⟩⟩, ⟨rfl, .inl ⟨rfl, rfl⟩⟩, by simp [Value.ownBlock], by simp [Value.ownBlock], by simp [Value.ownBlock]⟩

set_option maxHeartbeats 800000 in
theorem fits_any (W H : Int) (s : ByteArray) (x y : Int) (w : World) :
    Calls Try.prog 51 #[picV W H s, .int .i64 x, .int .i64 y] w fun e w' => e = .returned (.bool (fitsB W H s x y)) ∧ Below w.heap.size w w' := by
  have HC : Hid (∀ w', Calls Try.prog 71 #[picV W H s, .int .i64 x, .int .i64 y, .int .i64 8, .int .i64 8] w' fun e w'' => e = .returned (.bool (picB W H s && inRB W H x y 8 8)) ∧ Below w'.heap.size w' w'') := fun w' => within_any W H s x y 8 8 w'
  have HV : Hid (fitsB W H s x y = (picB W H s && decide (Int.tmod x 8 = 0) && decide (Int.tmod y 8 = 0) && inRB W H x y 8 8)) := rfl
  have hbA := (Below.refl w.heap.size w).alloc (Nat.le_refl _) (.cells #[.int .i64 W, .int .i64 H, .string s] 40)
  generalize fitsB W H s x y = R at *
  by_cases hx : Int.tmod x 8 = 0
  · by_cases hy : Int.tmod y 8 = 0
    · have HR : Hid (R = (picB W H s && inRB W H x y 8 8)) := by show _ = _; rw [HV.out, hx, hy]; simp
      generalize (picB W H s && inRB W H x y 8 8) = Q at *
      clear HV
      go_enter Try.func51, Try.ntmps51
      go_wp2_with fail
      generalize World.alloc w _ = V at *
      refine (HC.out V).mono ?_
      rintro e w1 ⟨rfl, hc⟩
      have hb1 := hbA.trans (hc.mono hbA.size)
      clear hc hbA
      go_wp2
      go_ret
      exact ⟨by rw [HR.out]; rfl, hb1⟩
    · have HR : Hid (R = false) := by show _ = _; rw [HV.out]; simp [hy]
      have q1 : (Int.tmod y 8 == 0) = false := by rw [beq_eq_false_iff_ne]; exact hy
      clear HV HC
      go_enter Try.func51, Try.ntmps51
      go_wp2
      go_ret
      exact ⟨by rw [HR.out]; rfl, hbA⟩
  · have HR : Hid (R = false) := by show _ = _; rw [HV.out]; simp [hx]
    have q1 : (Int.tmod x 8 == 0) = false := by rw [beq_eq_false_iff_ne]; exact hx
    clear HV HC
    go_enter Try.func51, Try.ntmps51
    go_wp2
    go_ret
    exact ⟨by rw [HR.out]; rfl, hbA⟩
end Go.Proofs.Ythmcedfkfoagdaa
