/-
  The walk of impl.PartsOf: it answers the parts of the line, or none.
-/
import Derived.Test.YtlbaahcifchknaaPaSplit
namespace Go.Proofs.Ytlbaahcifchknaa
open Go.RowKit

theorem split_no (s : ByteArray) (w : World) (hs : s.size ≤ 600) (ha : s.data.toList.all okByte = false) :
    Calls Try.prog 21 #[.string s] w fun e w' => ∃ v, e = .returned (.tuple #[v, .bool false]) ∧ Below w.heap.size w w' :=
  (implSplit s w hs).mono fun e w' h => by
    rcases h with ⟨h1, _⟩ | ⟨_, h2⟩
    · rw [ha] at h1; cases h1
    · exact h2
theorem split_yes (s : ByteArray) (w : World) (hs : s.size ≤ 600) (ha : s.data.toList.all okByte = true) :
    Calls Try.prog 21 #[.string s] w fun e w' => ∃ g c, e = .returned (.tuple #[.slice g (cutEnd (cutTo s.data.toList)).length c, .bool true]) ∧ w'.ownsRow w.heap.size 9 1 (.slice g (cutEnd (cutTo s.data.toList)).length c) (cutEnd (cutTo s.data.toList)).length (strsOf (cutEnd (cutTo s.data.toList))) ∧ Below w.heap.size w w' :=
  (implSplit s w hs).mono fun e w' h => by
    rcases h with ⟨_, h2⟩ | ⟨h1, _⟩
    · exact h2
    · rw [ha] at h1; cases h1

set_option maxHeartbeats 400000 in
theorem implParts (s : ByteArray) (w : World) (hm : s.size ≤ maxLen) :
    Calls Try.prog 12 #[.string s] w fun e w' => PartsPost w s e w' := by
  unfold maxLen at hm
  by_cases hs : 600 < s.size
  · have HP := partsPost_no (partsOk_long (l := s.data.toList) hs) (Below.refl w.heap.size w)
    go_enter Try.func12, Try.ntmps12
    go_wp2
    go_ret2
    exact HP
  have hs' : s.size ≤ 600 := by omega
  by_cases ha : s.data.toList.all okByte = true
  · have S := split_yes s w hs' ha
    have HA : Hid (s.data.toList.all okByte = true) := ha
    have HL : Hid (s.data.toList.length ≤ 600) := hs'
    have SS : Hid (Calls Try.prog 21 #[.string s] w fun e w' => ∃ g c, e = .returned (.tuple #[.slice g (cutEnd (cutTo s.data.toList)).length c, .bool true]) ∧ w'.ownsRow w.heap.size 9 1 (.slice g (cutEnd (cutTo s.data.toList)).length c) (cutEnd (cutTo s.data.toList)).length (strsOf (cutEnd (cutTo s.data.toList))) ∧ Below w.heap.size w w') := S
    clear S ha
    by_cases h12 : (cutEnd (cutTo s.data.toList)).length ≤ 12
    · have hyes : partsOk s.data.toList = true := by unfold partsOk; rw [HA.out]; simp [h12]; exact HL.out
      have HY : Hid (partsOk s.data.toList = true) := hyes
      have HR : Hid (partsR s.data.toList = cutEnd (cutTo s.data.toList)) := by show _ = _; unfold partsR; rw [if_pos hyes]
      clear hyes
      go_enter Try.func12, Try.ntmps12
      go_wp2_with (go_at_call 21; refine SS.out.mono ?_; rintro e w1 ⟨g, c, rfl, hown, hb⟩)
      go_ret2
      exact ⟨_, by rw [HY.out]; rfl, by rw [HR.out]; exact hown, hb⟩
    · have hno : partsOk s.data.toList = false := by unfold partsOk; rw [HA.out]; simp; omega
      have HN : Hid (partsOk s.data.toList = false) := hno
      clear hno
      go_enter Try.func12, Try.ntmps12
      go_wp2_with (go_at_call 21; refine SS.out.mono ?_; rintro e w1 ⟨g, c, rfl, hown, hb⟩)
      go_ret2
      exact partsPost_no HN.out hb
  · have ha' : s.data.toList.all okByte = false := by simpa using ha
    have S := split_no s w hs' ha'
    have HN : Hid (partsOk s.data.toList = false) := by show _ = _; unfold partsOk; rw [ha']; simp
    have SS : Hid (Calls Try.prog 21 #[.string s] w fun e w' => ∃ v, e = .returned (.tuple #[v, .bool false]) ∧ Below w.heap.size w w') := S
    clear S ha ha'
    go_enter Try.func12, Try.ntmps12
    go_wp2_with (go_at_call 21; refine SS.out.mono ?_; rintro e w1 ⟨v, rfl, hb⟩)
    go_ret2
    exact partsPost_no HN.out hb
theorem specParts_any (s : ByteArray) (w : World) (hm : s.size ≤ maxLen) :
    Calls Try.prog 11 #[.string s] w fun e w' => PartsPost w s e w' := by
  by_cases hs : s.size ≤ 600
  · exact specParts s w hs
  · exact specParts_long s w (by omega) hm
end Go.Proofs.Ytlbaahcifchknaa
