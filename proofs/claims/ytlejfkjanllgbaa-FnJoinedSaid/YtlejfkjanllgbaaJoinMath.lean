/-
  Dots and what is left together: as functions of numbers.
-/
import Derived.Test.YtlejfkjanllgbaaSqMath
import Derived.Test.YtlejfkjanllgbaaEdgeMath
import Derived.Test.YtlejfkjanllgbaaPicMath
namespace Go.Proofs.Ytlejfkjanllgbaa
open Go.RowKit
set_option linter.unusedVariables false
set_option maxRecDepth 20000

/-- Dots and what is left together. -/
def jnB (gs xs : List Int) : Bool := wantB gs && sqB 10000000 xs
theorem jnB_iff {gs xs : List Int} : jnB gs xs = true ↔ wantB gs = true ∧ sqB 10000000 xs = true := by unfold jnB; simp
theorem wantB_of {ws : List Int} (h : wantB ws = true) : ws.length = 64 ∧ dotsB ws = true := by unfold wantB at h; simpa using h
def joinL (gs xs : List Int) : List Int := if jnB gs xs = true then listF 64 (fun i => brF (gs.getD i 0 + xs.getD i 0) 0 255) else []
theorem joinL_le (gs xs : List Int) : (joinL gs xs).length ≤ 64 := by
  unfold joinL
  split
  · rw [listF_length]; omega
  · simp
theorem joinL_yes {gs xs : List Int} (h : jnB gs xs = true) : joinL gs xs = listF 64 (fun i => brF (gs.getD i 0 + xs.getD i 0) 0 255) := if_pos h
theorem joinL_no {gs xs : List Int} (h : jnB gs xs = false) : joinL gs xs = [] := if_neg (by rw [h]; decide)
end Go.Proofs.Ytlejfkjanllgbaa
