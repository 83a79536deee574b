/-
  The walks of spec.Unhex and impl.Unhex at a text that is too long or of odd length: both refuse it.
-/
import Derived.Test.YtlbaahcifchknaaUnImpl
namespace Go.Proofs.Ytlbaahcifchknaa
open Go.RowKit
set_option maxHeartbeats 400000 in
theorem specUnhex_no (s : ByteArray) (w : World) (hm : s.size ≤ maxLen) (hs : 40000 < s.size ∨ s.size ≤ 40000 ∧ s.size % 2 = 1) :
    Calls Try.prog 9 #[.string s] w fun e w' => e = .returned (.tuple #[.string ByteArray.empty, .bool false]) ∧ w' = w := by
  unfold maxLen at hm
  rcases hs with hs | ⟨hs, ho⟩
  · go_enter Try.func9, Try.ntmps9
    go_wp2
    go_ret2
    exact ⟨rfl, rfl⟩
  · have hd : (((s.size : Int) % 2) != 0) = true := by simp; omega
    clear ho
    go_enter Try.func9, Try.ntmps9
    go_wp2
    go_ret2
    exact ⟨rfl, rfl⟩
set_option maxHeartbeats 400000 in
theorem implUnhex_no (s : ByteArray) (w : World) (hm : s.size ≤ maxLen) (hs : 40000 < s.size ∨ s.size ≤ 40000 ∧ s.size % 2 = 1) :
    Calls Try.prog 10 #[.string s] w fun e w' => e = .returned (.tuple #[.string ByteArray.empty, .bool false]) ∧ w' = w := by
  unfold maxLen at hm
  rcases hs with hs | ⟨hs, ho⟩
  · go_enter Try.func10, Try.ntmps10
    go_wp2
    go_ret2
    exact ⟨rfl, rfl⟩
  · have hd : (((s.size : Int) % 2) != 0) = true := by simp; omega
    clear ho
    go_enter Try.func10, Try.ntmps10
    go_wp2
    go_ret2
    exact ⟨rfl, rfl⟩
end Go.Proofs.Ytlbaahcifchknaa
