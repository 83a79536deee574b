/-
  slices.Chunk: the pieces of a list of 64, told to a yield one by one.
-/
import Derived.Test.YtnlbigjfnjcldaaGreatRows
import Derived.RangeFuncNested
import Derived.RangeFuncLeaves
import Derived.WalkKit
import Derived.OwnWalkIn
import Derived.TacticsInMore
import Derived.LoopNIn
import Derived.LoopIn
import Derived.Sort.CutIn
import Derived.Sort.QuietIn
namespace Go.Proofs.YtnlbigjfnjcldaaGreat
open Go.RowKit
set_option linter.unusedVariables false
set_option maxRecDepth 20000
attribute [local go_sem] Oper.semAt_some

/-- The lengths of pieces, and how many there are of each. -/
def PieceOk (sz m : Nat) : Prop := (sz = 16 ∧ m = 4) ∨ (sz = 64 ∧ m = 1)

set_option maxHeartbeats 800000 in
/-- For whatever is kept of the rounds: J k holds when k pieces have come, Jx k when the round of the k-th has said no more. -/
theorem chunk_in (n : Nat) (sz m : Nat) (hs : PieceOk sz m) (b1 b2 g o c : Nat) (hc : 64 ≤ c) (l : Nat) (J Jx : Nat → World → Prop)
    (hD : ∀ k W q, J k W → J k (World.drewN W q))
    (hC : ∀ k W, J k W → W.cell? ⟨b1, 0, none⟩ = some (.slice (some ⟨g, o, none⟩) 64 c) ∧ W.cell? ⟨b2, 0, none⟩ = some (.int .i64 (sz : Int)))
    (hY : ∀ k W, k < m → J k W → YieldAt Fence.wide (n - 1) Tryz.prog l #[.slice (some ⟨g, o + k * sz, none⟩) sz sz] W fun e W' => (e = .returned (.bool true) ∧ J (k + 1) W') ∨ (e = .returned (.bool false) ∧ Jx k W'))
    (W : World) (h0 : J 0 W) :
    CallsIn Fence.wide n Tryz.prog 134 #[.func (.yield l) #[] #[], .pointer (some ⟨b1, 0, none⟩), .pointer (some ⟨b2, 0, none⟩)] W fun e W' => (∃ v, e = .returned v) ∧ (J m W' ∨ ∃ k, k < m ∧ Jx k W') := by
  have HC : Hid (∀ k W, J k W → W.cell? ⟨b1, 0, none⟩ = some (.slice (some ⟨g, o, none⟩) 64 c) ∧ W.cell? ⟨b2, 0, none⟩ = some (.int .i64 (sz : Int))) := hC
  have HD : Hid (∀ k W q, J k W → J k (World.drewN W q)) := hD
  have HM : Hid (∀ k, k < m → k * sz + sz ≤ 64) := fun k hk => by rcases hs with ⟨rfl, rfl⟩ | ⟨rfl, rfl⟩ <;> omega
  have HE : Hid (m * sz = 64) := by rcases hs with ⟨rfl, rfl⟩ | ⟨rfl, rfl⟩ <;> rfl
  have s0 : (1 : Int) ≤ (sz : Int) := by rcases hs with ⟨rfl, rfl⟩ | ⟨rfl, rfl⟩ <;> decide
  have s1 : (sz : Int) ≤ 64 := by rcases hs with ⟨rfl, rfl⟩ | ⟨rfl, rfl⟩ <;> decide
  have c1 : (64 : Int) ≤ (c : Int) := by omega
  clear hC hD hs
  refine callsIn_of_wp Tryz.func134 rfl trivial ?_ rfl
  simp only [Tryz.ntmps134, List.size_toArray, List.length_cons, List.length_nil, Nat.reduceAdd, Nat.reduceSub, Array.replicate_succ, Array.replicate_zero, List.push_toArray, List.append_toArray, List.nil_append, List.cons_append]
  gi_wp2
  gi_loopw [4] (fun i wr => ∃ k q : Nat, k ≤ m ∧ q = k * sz ∧ i = .int .i64 (q : Int) ∧ J k wr) (fun i _ => 64 - (intOf i).toNat)
  case atStart => exact ⟨0, 0, Nat.zero_le _, by omega, rfl, h0⟩
  case round =>
    obtain ⟨k, q, hk, hq, rfl, hJ⟩ := hrel
    obtain ⟨x1, x2⟩ := HC.out k wr hJ
    by_cases hlt : k < m
    · have hm := HM.out k hlt
      rw [← hq] at hm
      have q0 : (0 : Int) ≤ (q : Int) := by omega
      have q1 : (q : Int) < 64 := by omega
      have q2 : (q : Int) + (sz : Int) ≤ 64 := by omega
      have q3 : q ≤ 64 := by omega
      have HQ : Hid (q = k * sz) := hq
      have HS : Hid ((q : Int) + (sz : Int) = ((q + sz : Nat) : Int)) := by show _ = _; omega
      clear hq
      gi_upto_region 3 with fail
      gi_quiet (fail)
      have hJ2 := HD.out k wr nq hJ
      clear hJ x1 x2
      (try simp only [Exit.then])
      generalize World.drewN wr nq = w2 at *
      obtain ⟨x1, x2⟩ := HC.out k w2 hJ2
      obtain ⟨fn, tmps, assign, body, hy, hR⟩ := hY k w2 hlt hJ2
      rw [← HQ.out] at hy
      clear hJ2
      gi_wp2
      refine ⟨fun h => (by cases h), hR.mono ?_⟩
      rintro e W3 (⟨rfl, hJ3⟩ | ⟨rfl, hJ3⟩)
      · obtain ⟨x1, x2⟩ := HC.out (k + 1) W3 hJ3
        gi_wp2
        go_roundw
        case rel => exact ⟨k + 1, q + sz, by omega, by rw [HQ.out, Nat.succ_mul], by go_num, hJ3⟩
        case measure => simp [intOf]; omega
      · gi_wp2
        refine bodyPost_ret (results_none rfl _ _ _) rfl ?_
        exact ⟨⟨_, rfl⟩, .inr ⟨k, hlt, hJ3⟩⟩
    · obtain rfl : k = m := by omega
      rw [HE.out] at hq
      subst hq
      gi_wp2
      go_end0
      exact ⟨⟨_, rfl⟩, .inl hJ⟩
end Go.Proofs.YtnlbigjfnjcldaaGreat
