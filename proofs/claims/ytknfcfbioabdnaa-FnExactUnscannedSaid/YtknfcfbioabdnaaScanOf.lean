/-
  impl.scanOf, impl.ScanAt.
-/
import Derived.Test.YtknfcfbioabdnaaScanRange
import Derived.Test.YtknfcfbioabdnaaIntKit
namespace Go.Proofs.Ytknfcfbioabdnaa
open Go.RowKit
set_option linter.unusedVariables false
set_option maxRecDepth 20000
attribute [local go_sem] Oper.semAt_some

theorem scanOf_any (s : Int) (w : World) : Calls Try.prog 38 #[.int .i64 s] w fun e w' => e = .returned (.tuple #[.int .i64 s, .bool (decide (s = 4) || decide (s = 8))]) ∧ w' = w := by
  by_cases h1 : s = 4
  · subst h1
    go_enter Try.func38, Try.ntmps38
    go_wp2
    all_goals go_ret2
    all_goals exact ⟨rfl, rfl⟩
  · by_cases h2 : s = 8
    · subst h2
      go_enter Try.func38, Try.ntmps38
      go_wp2
      all_goals go_ret2
      all_goals exact ⟨rfl, rfl⟩
    · have e1 : (decide (s = 4) || decide (s = 8)) = false := by simp [h1, h2]
      rw [e1]
      have q1 : (s == 4) = false := by rw [beq_eq_false_iff_ne]; exact h1
      have q2 : (s == 8) = false := by rw [beq_eq_false_iff_ne]; exact h2
      go_enter Try.func38, Try.ntmps38
      go_wp2
      all_goals go_ret2
      all_goals exact ⟨by simp, rfl⟩
theorem side_yes {sd : Nat} (hs : SideOk sd) : (decide ((sd : Int) = 4) || decide ((sd : Int) = 8)) = true := by rcases hs with rfl | rfl <;> rfl

/-- What ScanAt answers. -/
def atF (s k : Int) : Int := if (s = 4 ∨ s = 8) ∧ 0 ≤ k ∧ k < s * s then (scF s.toNat k.toNat : Int) else -1

set_option maxHeartbeats 800000 in
theorem implScanAt_yes (sd : Nat) (hs : SideOk sd) (k : Int) (w : World) : Calls Try.prog 17 #[.int .i64 (sd : Int), .int .i64 k] w fun e w' => e = .returned (.int .i64 (atF sd k)) ∧ Below w.heap.size w w' := by
  have CO := scanOf_any (sd : Int)
  rw [side_yes hs] at CO
  have HC : Hid (∀ w', Calls Try.prog 38 #[.int .i64 (sd : Int)] w' (fun e w'' => e = .returned (.tuple #[.int .i64 (sd : Int), .bool true]) ∧ w'' = w')) := CO
  clear CO
  refine (callsIn_wide (n := 3)).1 ?_
  refine callsIn_of_wp_marks Try.func17 rfl trivial ?_ rfl
  simp only [Try.ntmps17, List.size_toArray, List.length_cons, List.length_nil, Nat.reduceAdd, Nat.reduceSub, Array.replicate_succ, Array.replicate_zero, List.push_toArray, List.append_toArray, List.nil_append, List.cons_append]
  gi_wp2_with (refine ⟨trivial, ?_⟩; gi_at_call 38; refine (callsIn_wide.2 (HC.out _)).mono ?_; rintro e w' ⟨rfl, hw⟩; subst w')
  have bK := (Boxed.new w 3 (.int .i64 k)).alloc (.cells #[.int .i64 0] 3)
  have bR := Boxed.new (w.alloc (.cells #[.int .i64 k] 3)) 3 (.int .i64 0)
  rw [World.size_alloc] at bR
  have hB0 : Below w.heap.size w ((w.alloc (.cells #[.int .i64 k] 3)).alloc (.cells #[.int .i64 0] 3)) := ((Below.refl _ w).alloc (Nat.le_refl _) _).alloc (by simp) _
  have hz : ((w.alloc (.cells #[.int .i64 k] 3)).alloc (.cells #[.int .i64 0] 3)).heap.size = w.heap.size + 2 := by simp
  revert bK bR hB0 hz
  generalize (w.alloc (.cells #[.int .i64 k] 3)).alloc (.cells #[.int .i64 0] 3) = V
  intro bK bR hB0 hz
  refine scanLoop sd hs rfl rfl
    (fun j W => (Boxed W w.heap.size 3 (.int .i64 k) ∧ Boxed W (w.heap.size + 1) 3 (.int .i64 0) ∧ ∀ i : Nat, i < j → (i : Int) ≠ k) ∧ Below w.heap.size w W)
    (fun j W => (Boxed W (w.heap.size + 1) 3 (.int .i64 (scF sd j : Int)) ∧ (j : Int) = k) ∧ Below w.heap.size w W)
    (OwnFrom.and (Own.from (fun s A B row h hg hr => ⟨boxed_own _ 3 (fun _ : Unit => .int .i64 k) () A B row h.1 hg hr, boxed_own _ 3 (fun _ : Unit => .int .i64 0) () A B row h.2.1 hg hr, h.2.2⟩) _) (ownFrom_below (Nat.le_refl _) (by omega)))
    (OwnFrom.and (Own.from (fun s A B row h hg hr => ⟨boxed_own _ 3 (fun j : Nat => .int .i64 (scF sd j : Int)) s A B row h.1 hg hr, h.2⟩) _) (ownFrom_below (Nat.le_refl _) (by omega)))
    ⟨⟨bK, bR, fun i hi => by omega⟩, hB0⟩
    (fun j => { tmps := #[.int .i64 (sd : Int), .int .i64 k, undef, .pointer (some ⟨w.heap.size, 0, none⟩), .pointer (some ⟨w.heap.size + 1, 0, none⟩), .int .i64 (sd : Int), .bool true, .int .i64 (j : Int), .int .i64 (scF sd j : Int), .tuple #[.int .i64 (sd : Int), .bool true], .int .i64 (sd : Int), .tuple #[.int .i64 (sd : Int), .bool true], .int .i64 (sd : Int), .bool true, .bool true, .bool false, .int .i64 (sd : Int), .func (.func 37) #[.int .i64 (sd : Int)] #[], .int .i64 (j : Int), .int .i64 (scF sd j : Int), undef, undef, undef, undef], defers := [] }) ?assign ?body ?done ?stop
  case assign =>
    intro l j W K hK
    gi_wp2
    exact hK
  case body =>
    rintro l j W hj ⟨⟨hK, hR, hn⟩, hb⟩
    have ck := hK.cell
    have cr := hR.cell
    have fr := hR.frozen
    by_cases h : (j : Int) = k
    · gi_wp2
      exact ⟨(KeepsOthers.setCell _ _ _).from _, ⟨hR.set _, h⟩, hb.setCell (p := ⟨w.heap.size + 1, 0, none⟩) (by simp) _⟩
    · gi_wp2
      exact ⟨KeepsFrom.refl _ _, ⟨hK, hR, fun i hi => by
        rcases Nat.lt_succ_iff_lt_or_eq.1 hi with h1 | rfl
        · exact hn i h1
        · exact h⟩, hb⟩
  case done =>
    rintro D W hD ⟨⟨hK, hR, hn⟩, hb⟩ hd
    have cr := hR.cell
    have fr := hR.frozen
    have ha : atF (sd : Int) k = -1 := by
      unfold atF
      refine if_neg fun h => ?_
      have := hn k.toNat (by have := Int.natCast_mul sd sd; omega)
      omega
    gi_wp2
    have hd' := (KeepsOthers.setCell W ⟨w.heap.size + 1, 0, none⟩ (.int .i64 (-1))).same D _ hd rfl
    refine ⟨by simp, .inl ⟨_, _, rfl, run_takeDeferred hd', ?_⟩⟩
    have hc5 := cell_kept (hR.set (.int .i64 (-1))).cell (grownBy_putObj' _ D (.deferred none)) (fun r e => by cases e; exact ⟨_, hd', rfl⟩)
    refine ⟨.int .i64 (-1), ?_, by rw [ha], (hb.setCell (p := ⟨w.heap.size + 1, 0, none⟩) (by simp) _).trans (belowK_b (w := w) (Nat.le_refl _) _ D _ _ (by omega) hd' rfl rfl)⟩
    simp [results, Try.f17, go_sem, hc5]
  case stop =>
    rintro D j W hD hj ⟨⟨hR, he⟩, hb⟩ hd
    have ha : atF (sd : Int) k = (scF sd j : Int) := by
      subst he
      unfold atF
      rw [if_pos ⟨by rcases hs with rfl | rfl <;> simp, by omega, by have := Int.natCast_mul sd sd; omega⟩]
      simp
    gi_wp2
    refine ⟨by simp, .inl ⟨_, _, rfl, run_takeDeferred hd, ?_⟩⟩
    have hc5 := cell_kept hR.cell (grownBy_putObj' _ D (.deferred none)) (fun r e => by cases e; exact ⟨_, hd, rfl⟩)
    refine ⟨.int .i64 (scF sd j : Int), ?_, by rw [ha], hb.trans (belowK_b (w := w) (Nat.le_refl _) _ D _ _ (by omega) hd rfl rfl)⟩
    simp [results, Try.f17, go_sem, hc5]

theorem implScanAt (s k : Int) (w : World) : Calls Try.prog 17 #[.int .i64 s, .int .i64 k] w fun e w' => e = .returned (.int .i64 (atF s k)) ∧ Below w.heap.size w w' := by
  by_cases hs : s = 4 ∨ s = 8
  · have := implScanAt_yes s.toNat (by rcases hs with rfl | rfl <;> simp [SideOk]) k w
    rwa [show ((s.toNat : Nat) : Int) = s by omega] at this
  · have CO := scanOf_any s
    have e1 : (decide (s = 4) || decide (s = 8)) = false := by simp; omega
    rw [e1] at CO
    have HC : Hid (∀ w', Calls Try.prog 38 #[.int .i64 s] w' (fun e w'' => e = .returned (.tuple #[.int .i64 s, .bool false]) ∧ w'' = w')) := CO
    have ha : atF s k = -1 := by
      unfold atF
      exact if_neg fun h => hs h.1
    rw [ha]
    clear CO e1 ha hs
    go_enter Try.func17, Try.ntmps17
    go_wp2_with (go_at_call 38; refine (HC.out _).mono ?_; rintro e w' ⟨rfl, hw⟩; subst w')
    have bR := Boxed.new (w.alloc (.cells #[.int .i64 k] 3)) 3 (.int .i64 (-1))
    have hb : Below w.heap.size w ((w.alloc (.cells #[.int .i64 k] 3)).alloc (.cells #[.int .i64 (-1)] 3)) := ((Below.refl _ w).alloc (Nat.le_refl _) _).alloc (by simp) _
    rw [World.size_alloc] at bR
    have hc5 := bR.cell
    refine bodyPost_ret (v := .int .i64 (-1)) ?_ rfl ⟨rfl, hb⟩
    simp [results, Try.f17, go_sem, hc5]
end Go.Proofs.Ytknfcfbioabdnaa
