/-
  The walk of laws.FnExactLevelsRow: a list of numbers and a condition in, a row and a yes or no out.
-/
import Derived.Test.YtlejfkjanllgbaaGreatDoorLevRows
import Derived.Test.YtlejfkjanllgbaaGreatDoorIntsArg
import Derived.Test.YtlejfkjanllgbaaGreatDoorStepAll
import Derived.Deep.RegionHeld3
import Derived.Deep.CutRange
namespace Go.Proofs.YtlejfkjanllgbaaGreatDoor
open Go.RowKit
set_option linter.unusedVariables false
set_option maxRecDepth 20000

set_option maxHeartbeats 3200000 in
theorem fnExactLevelsRow_walk (a : Option Addr) (xs : List Int) (cap : Nat) (k : Bool) (q : Int) (g x : Bool) (w : World) (tsc : TabC w 2 scL) (tsh : TabC w 1 shL) (tkd : TabC w 0 kdL) (h : Ints w a xs) (hl : xs.length ≤ maxLen) :
    Calls Tryz.prog 4 #[.slice a xs.length cap, conV k q g x] w fun e w' => e = .returned (.bool true) ∧ Below w.heap.size w w' := by
  clear tsc tsh tkd
  have B0 := Blk.new w #[.bool k, .int .i64 q, .bool g, .bool x] 38
  have hb0 := (Below.refl w.heap.size w).alloc (Nat.le_refl _) (.cells #[.bool k, .int .i64 q, .bool g, .bool x] 38)
  have hl' := hl
  unfold maxLen at hl'
  by_cases k1 : 1048576 < xs.length
  · go_enter Tryz.func4, Tryz.ntmps4
    go_wp2
    go_ret
    exact ⟨rfl, hb0⟩
  have j1 : xs.length ≤ 1048576 := by omega
  have H : Hid (∀ w', Below w.heap.size w w' → Ints w' a xs) := fun w' hb => h.below hb (Nat.le_refl _)
  have CS : Hid (∀ (p : Option Addr) (c : Nat) (w' : World), Ints w' p xs → xs.length ≤ c → Calls Tryz.prog 14 #[.slice p xs.length c, conV k q g x] w' (fun e w'' => e = .returned (.tuple #[.string (lrS q g x xs), .bool (lrB q g x xs)]) ∧ Below w'.heap.size w' w'')) := fun p c w' hi hc => specLevelsRow p c xs k q g x w' hi hl hc
  have CI : Hid (∀ (p : Option Addr) (c : Nat) (w' : World), Ints w' p xs → xs.length ≤ c → Calls Tryz.prog 9 #[.slice p xs.length c, conV k q g x] w' (fun e w'' => e = .returned (.tuple #[.string (lrS q g x xs), .bool (lrB q g x xs)]) ∧ Below w'.heap.size w' w'')) := fun p c w' hi hc => implLevelsRow p c xs k q g x w' hi hl hc
  have CT : Hid (∀ w', Below w.heap.size w w' → Calls Tryz.prog 15 #[.slice a xs.length cap] w' (fun e w'' => (∃ v, e = .returned v ∧ w''.ownsRow w'.heap.size 3 1 v xs.length (xs.map (Value.int .i64))) ∧ Below w'.heap.size w' w'')) := fun w' hb => by
    refine (toIntS_any a cap xs w' (H.out w' hb) j1).mono ?_
    rintro e w'' ⟨v, rfl, ho, hc⟩
    exact ⟨⟨v, rfl, ho⟩, hc⟩
  have CC : Hid (∀ w', Calls Tryz.prog 16 #[conV k q g x] w' fun e w'' => e = .returned (conV k q g x) ∧ Below w'.heap.size w' w'') := fun w' => toCond_any k q g x w'
  generalize lrS q g x xs = R at *
  generalize lrB q g x xs = Y at *
  clear h hl k1
  have nxs : (xs.length : Int) ≤ 1048576 := by omega
  go_enter Tryz.func4, Tryz.ntmps4
  go_wp2_with fail
  have hbs := hb0.size
  generalize World.alloc w _ = V at *
  have BK : Hid (∀ w', Below V.heap.size V w' → (w'.cell? ⟨w.heap.size, 0, none⟩ = some (.bool k) ∧ w'.cell? ⟨w.heap.size, 1, none⟩ = some (.int .i64 q) ∧ w'.cell? ⟨w.heap.size, 2, none⟩ = some (.bool g) ∧ w'.cell? ⟨w.heap.size, 3, none⟩ = some (.bool x))) := fun w' h => (B0.below h B0.lt).four.1
  clear B0
  have hbV := Below.refl V.heap.size V
  obtain ⟨x0, x1, x2, x3⟩ := BK.out V hbV
  go_cut [5, 6] from 13 to 20 (fun u v wc => u = .string R ∧ v = .bool Y ∧ Below V.heap.size V wc)
  case first =>
    go_region_held3 (fun w' => w'.cell? ⟨w.heap.size, 0, none⟩ = some (.bool k) ∧ w'.cell? ⟨w.heap.size, 1, none⟩ = some (.int .i64 q) ∧ w'.cell? ⟨w.heap.size, 2, none⟩ = some (.bool g) ∧ w'.cell? ⟨w.heap.size, 3, none⟩ = some (.bool x))
      (first | (with_reducible exact hS) | go_keep)
      (first
        | (go_at_call 15; refine (CT.out _ hb0.drew).mono ?_; rintro e wA ⟨⟨v, rfl, ho⟩, hcA⟩; obtain ⟨pA, cA, rfl, iA, _⟩ := ints_of_owns ho; have hcap := owned_cap ho; have hbA : Below V.heap.size V wA := hbV.drew.trans hcA; have hS := BK.out wA hbA; clear ho)
        | (go_at_call 16; refine (CC.out _).mono ?_; rintro e wB ⟨rfl, hcB⟩; have iB := iA.below hcB (Nat.le_refl _); have hbB : Below V.heap.size V wB := hbA.trans (hcB.mono hbA.size); have hS := BK.out wB hbB)
        | (go_at_call 14; refine (CS.out _ _ _ iB hcap).mono ?_; rintro e wC ⟨rfl, hcC⟩; have hbC : Below V.heap.size V wC := hbB.trans (hcC.mono hbB.size); have hS := BK.out wC hbC))
    all_goals
      go_wp2_with fail
      go_meet
      exact ⟨rfl, rfl, hbC⟩
  case rest =>
  obtain ⟨rfl, rfl, hb1⟩ := hcut
  clear x0 x1 x2 x3
  generalize wc = w2 at *
  have hb2 := hb0.trans (hb1.mono hbs)
  clear CS
  go_wp2_with fail
  refine (CT.out w2 hb2).mono ?_
  rintro e w3 ⟨⟨v, rfl, ho⟩, hc3⟩
  have hb3 := hb2.trans (hc3.mono hb2.size)
  obtain ⟨px, cx, rfl, ix, _⟩ := ints_of_owns ho
  have hcx' := owned_cap ho
  obtain ⟨x0, x1, x2, x3⟩ := BK.out w3 (hb1.trans (hc3.mono hb1.size))
  clear ho
  go_wp2_with fail
  refine (CC.out w3).mono ?_
  rintro e w30 ⟨rfl, hc⟩
  have hb30 := hb3.trans (hc.mono hb3.size)
  have ix0 := ix.below hc (Nat.le_refl _)
  clear hc x0 x1 x2 x3 ix hc3 hb3
  go_wp2_with fail
  refine (CI.out _ _ w30 ix0 hcx').mono ?_
  rintro e w4 ⟨rfl, hc⟩
  have hb4 := hb30.trans (hc.mono hb30.size)
  have ix4 := ix0.below hc (Nat.le_refl _)
  clear hc ix0 hb30
  go_wp2_with fail
  refine (CT.out w4 hb4).mono ?_
  rintro e w6 ⟨⟨v, rfl, ho⟩, hc⟩
  have hb6 := hb4.trans (hc.mono hb4.size)
  obtain ⟨p6, c6, rfl, i6, _⟩ := ints_of_owns ho
  have ix6 := ix4.below hc (Nat.le_refl _)
  clear ho hc hb4 ix4
  go_wp2_with fail
  refine (eqIntS_any _ _ _ _ xs w6 ix6 i6 (by omega)).mono ?_
  rintro e w7 ⟨rfl, hc⟩
  have hb7 := hb6.trans (hc.mono hb6.size)
  go_wp2
  go_ret
  exact ⟨rfl, hb7⟩
end Go.Proofs.YtlejfkjanllgbaaGreatDoor
