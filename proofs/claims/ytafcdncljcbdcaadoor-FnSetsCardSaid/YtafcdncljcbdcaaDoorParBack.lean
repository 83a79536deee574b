/-
  The walks of spec.l05ReadPar and spec.ReadPar, laws.eqPar, and the law laws.FnExactReadPar.
-/
import Derived.Test.YtafcdncljcbdcaaDoorParRead
import Derived.Test.YtafcdncljcbdcaaDoorReadOne
namespace Go.Proofs.YtafcdncljcbdcaaDoor
open Go.RowKit
set_option linter.unusedVariables false
set_option maxRecDepth 20000

theorem parV_none (s : ByteArray) : parV s none = .tuple #[.agg #[.int .i64 0, .bool false, .bool false, .bool false], .int .i64 0, .bool false] := rfl
theorem parV_form (s : ByteArray) (st : St) : ∃ q fg fx fc p r, parV s st = .tuple #[.agg #[.int .i64 q, .bool fg, .bool fx, .bool fc], .int .i64 p, .bool r] := by
  unfold parV
  cases rpE s st with
  | none => exact ⟨_, _, _, _, _, _, rfl⟩
  | some e =>
    simp only []
    split
    · exact ⟨_, _, _, _, _, _, rfl⟩
    · exact ⟨_, _, _, _, _, _, rfl⟩
theorem rpE_small (s : ByteArray) (a : Nat) (h : s.size < a + 9) : rpE s (some a) = none := by
  unfold rpE
  by_cases h1 : a + 6 ≤ s.size
  · rw [show fixR s 6 (some a) = (readN s a 6, some (a + 6)) by simp [fixR, h1]]
    by_cases h2 : a + 6 + 1 ≤ s.size
    · rw [show fixR s 1 (some (a + 6)) = (readN s (a + 6) 1, some (a + 6 + 1)) by simp [fixR, h2]]
      by_cases h3 : a + 6 + 1 + 1 ≤ s.size
      · rw [show fixR s 1 (some (a + 6 + 1)) = (readN s (a + 6 + 1) 1, some (a + 6 + 1 + 1)) by simp [fixR, h3]]
        rw [show fixR s 1 (some (a + 6 + 1 + 1)) = (0, none) by simp [fixR]; omega]
      · rw [show fixR s 1 (some (a + 6 + 1)) = (0, none) by simp [fixR]; omega]
        rfl
    · rw [show fixR s 1 (some (a + 6)) = (0, none) by simp [fixR]; omega]
      rfl
  · rw [show fixR s 6 (some a) = (0, none) by simp [fixR]; omega]
    rfl
theorem parV_small (s : ByteArray) (a : Nat) (h : s.size < a + 9) : parV s (some a) = .tuple #[.agg #[.int .i64 0, .bool false, .bool false, .bool false], .int .i64 0, .bool false] := by
  unfold parV; rw [rpE_small s a h]
theorem flg_at (s : ByteArray) (p : Nat) (h : p + 1 ≤ s.size) : flg s (some p) = (bAt s p == 49) := by
  unfold flg fixR
  simp only [h, ↓reduceIte, readN]
  rw [Bool.eq_iff_iff]
  simp
  omega
theorem rp_big (s : ByteArray) (a : Nat) (h : a + 9 ≤ s.size) : rpQ s (some a) = readN s a 6 ∧ rpG s (some a) = (bAt s (a + 6) == 49) ∧ rpX s (some a) = (bAt s (a + 6 + 1) == 49) ∧ rpC s (some a) = (bAt s (a + 6 + 2) == 49) ∧ rpE s (some a) = some (a + 9) := by
  have e1 : fixR s 6 (some a) = (readN s a 6, some (a + 6)) := by simp [fixR, show a + 6 ≤ s.size by omega]
  have e2 : fixR s 1 (some (a + 6)) = (readN s (a + 6) 1, some (a + 6 + 1)) := by simp [fixR, show a + 6 + 1 ≤ s.size by omega]
  have e3 : fixR s 1 (some (a + 6 + 1)) = (readN s (a + 6 + 1) 1, some (a + 6 + 1 + 1)) := by simp [fixR, show a + 6 + 1 + 1 ≤ s.size by omega]
  have e4 : fixR s 1 (some (a + 6 + 1 + 1)) = (readN s (a + 6 + 1 + 1) 1, some (a + 6 + 1 + 1 + 1)) := by simp [fixR, show a + 6 + 1 + 1 + 1 ≤ s.size by omega]
  refine ⟨by unfold rpQ; rw [e1], ?_, ?_, ?_, ?_⟩
  · unfold rpG; rw [e1]; exact flg_at s _ (by omega)
  · unfold rpX; rw [e1, e2]; exact flg_at s _ (by omega)
  · unfold rpC; rw [e1, e2, e3]; exact flg_at s _ (by omega)
  · unfold rpE; rw [e1, e2, e3, e4]

end Go.Proofs.YtafcdncljcbdcaaDoor
