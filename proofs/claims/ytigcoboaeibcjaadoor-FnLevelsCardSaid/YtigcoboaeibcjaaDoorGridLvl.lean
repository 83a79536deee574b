/-
  The least level: the walks of impl.LevelFor, its closure, leastFit over numbers, and spec.LevelFor.
-/
import Derived.Test.YtigcoboaeibcjaaDoorGridTops
namespace Go.Proofs.YtigcoboaeibcjaaDoor
open Go.RowKit
set_option linter.unusedVariables false
set_option maxRecDepth 20000

set_option maxHeartbeats 800000 in
theorem lvlFits (k : Int) (a1 a2 : Option Addr) (c1 c2 : Nat) (xs ys : List Int) (B1 B2 : Nat) (w : World) (h : SetIn w a1 a2 xs ys) (h1 : Blk w B1 #[.slice a1 xs.length c1] 24) (h2 : Blk w B2 #[.slice a2 ys.length c2] 24) :
    Calls Tryd.prog 43 #[.int .i64 k, .pointer (some ⟨B1, 0, none⟩), .pointer (some ⟨B2, 0, none⟩)] w fun e w' => e = .returned (.bool (seqB k 3 xs ys)) ∧ Below w.heap.size w w' := by
  have b1 := h1.cell 0
  have b2 := h2.cell 0
  simp only [List.getElem?_toArray, List.getElem?_cons_zero] at b1 b2
  have H : Hid (SetIn w a1 a2 xs ys) := h
  clear h
  go_enter Tryd.func43, Tryd.ntmps43
  go_wp2_with fail
  refine (implSeqOk _ _ _ _ _ _ _ _ w H.out.1.2.2 H.out.1.1 H.out.1.2.1 H.out.2.1 H.out.2.2).mono ?_
  rintro e w1 ⟨rfl, hc⟩
  go_wp2
  go_ret
  exact ⟨rfl, hc⟩
theorem lvlF_hit {xs ys : List Int} {k : Nat} (hk : k < 3) (h : seqB ((k : Int) + 1) 3 xs ys = true) (hn : ∀ j : Nat, j < k → seqB ((j : Int) + 1) 3 xs ys = false) : lvlF xs ys = (k : Int) + 1 := by
  unfold lvlF
  rcases (show k = 0 ∨ k = 1 ∨ k = 2 by omega) with rfl | rfl | rfl
  · rw [if_pos (show seqB 1 3 xs ys = true from h)]; rfl
  · rw [if_neg (by rw [show seqB 1 3 xs ys = false from hn 0 (by omega)]; decide), if_pos (show seqB 2 3 xs ys = true from h)]; rfl
  · rw [if_neg (by rw [show seqB 1 3 xs ys = false from hn 0 (by omega)]; decide), if_neg (by rw [show seqB 2 3 xs ys = false from hn 1 (by omega)]; decide), if_pos (show seqB 3 3 xs ys = true from h)]; rfl
theorem lvlF_no {xs ys : List Int} (hn : ∀ j : Nat, j < 3 → seqB ((j : Int) + 1) 3 xs ys = false) : lvlF xs ys = 0 := by
  unfold lvlF
  rw [if_neg (by rw [show seqB 1 3 xs ys = false from hn 0 (by omega)]; decide), if_neg (by rw [show seqB 2 3 xs ys = false from hn 1 (by omega)]; decide), if_neg (by rw [show seqB 3 3 xs ys = false from hn 2 (by omega)]; decide)]
set_option maxHeartbeats 1600000 in
theorem lvlLeast (a1 a2 : Option Addr) (c1 c2 : Nat) (xs ys : List Int) (B1 B2 g : Nat) (w : World) (h : SetIn w a1 a2 xs ys) (h1 : Blk w B1 #[.slice a1 xs.length c1] 24) (h2 : Blk w B2 #[.slice a2 ys.length c2] 24)
    (hc : ∀ w' (k : Nat), Below w.heap.size w w' → k < 3 → w'.cell? ⟨g, k, none⟩ = some (.int .i64 ((k : Int) + 1))) :
    Calls Tryd.prog 42 #[.slice (some ⟨g, 0, none⟩) 3 3, .func (Fn.func 43) #[] #[.pointer (some ⟨B1, 0, none⟩), .pointer (some ⟨B2, 0, none⟩)]] w fun e w' => (∃ o : Bool, e = .returned (.tuple #[.int .i64 (lvlF xs ys), .bool o])) ∧ Below w.heap.size w w' := by
  have HC : Hid (∀ w' (k : Nat), Below w.heap.size w w' → k < 3 → w'.cell? ⟨g, k, none⟩ = some (.int .i64 ((k : Int) + 1))) := hc
  have HF : Hid (∀ w' (k : Int), Below w.heap.size w w' → Calls Tryd.prog 43 #[.int .i64 k, .pointer (some ⟨B1, 0, none⟩), .pointer (some ⟨B2, 0, none⟩)] w' (fun e w'' => e = .returned (.bool (seqB k 3 xs ys)) ∧ Below w'.heap.size w' w'')) := fun w' k hb => lvlFits k a1 a2 c1 c2 xs ys B1 B2 w' (h.below hb (Nat.le_refl _)) (h1.below hb h1.lt) (h2.below hb h2.lt)
  clear h h1 h2 hc
  go_enter Tryd.func42, Tryd.ntmps42
  go_wp2
  go_loopw [11] (fun i wr => ∃ k : Nat, k ≤ 3 ∧ i = .int .i64 (k : Int) ∧ Hid (∀ j : Nat, j < k → seqB ((j : Int) + 1) 3 xs ys = false) ∧ Below w.heap.size w wr)
    (fun i _ => 3 - (intOf i).toNat)
  case atStart => exact ⟨0, by omega, rfl, fun i hi => by omega, Below.refl _ _⟩
  case round =>
    obtain ⟨k, hk, rfl, HN, hb⟩ := hrel
    have l0 : (0 : Int) ≤ (k : Int) := by omega
    by_cases hlt : k < 3
    · have l1 : (k : Int) < 3 := by omega
      have c0 := HC.out wr k hb hlt
      have HS := HF.out wr ((k : Int) + 1) hb
      have HS' : Hid (Calls Tryd.prog 43 #[.int .i64 ((k : Int) + 1), .pointer (some ⟨B1, 0, none⟩), .pointer (some ⟨B2, 0, none⟩)] wr _) := HS
      clear HS
      cases hs : seqB ((k : Int) + 1) 3 xs ys with
      | true =>
        have HV : Hid (lvlF xs ys = (k : Int) + 1) := lvlF_hit hlt hs HN.out
        rw [hs] at HS'
        clear hs
        go_wp2_with (go_at_call 43; refine HS'.out.mono ?_; rintro e w1 ⟨rfl, hc1⟩)
        go_ret2
        exact ⟨⟨_, by rw [HV.out]; rfl⟩, hb.trans (hc1.mono hb.size)⟩
      | false =>
        have HV : Hid (seqB ((k : Int) + 1) 3 xs ys = false) := hs
        rw [hs] at HS'
        clear hs
        go_wp2_with (go_at_call 43; refine HS'.out.mono ?_; rintro e w1 ⟨rfl, hc1⟩)
        go_roundw
        case rel => exact ⟨k + 1, by omega, by go_num, fun i hi => by
          rcases Nat.lt_succ_iff_lt_or_eq.1 hi with h | rfl
          · exact HN.out i h
          · exact HV.out, hb.trans (hc1.mono hb.size)⟩
        case measure => simp [intOf]; omega
    · obtain rfl : k = 3 := by omega
      have HV : Hid (lvlF xs ys = 0) := lvlF_no HN.out
      go_wp2
      go_ret2
      exact ⟨⟨_, by rw [HV.out]; rfl⟩, hb⟩
set_option maxHeartbeats 800000 in
theorem implLevelFor (a1 a2 : Option Addr) (c1 c2 : Nat) (xs ys : List Int) (w : World) (h : SetIn w a1 a2 xs ys) :
    Calls Tryd.prog 16 #[.slice a1 xs.length c1, .slice a2 ys.length c2] w fun e w' => e = .returned (.int .i64 (lvlF xs ys)) ∧ Below w.heap.size w w' := by
  have H : Hid (SetIn w a1 a2 xs ys) := h
  have hmf : ∀ (fn : Fn) (first cap : Array Value) (w : World), (Instr.makeFunc fn first cap).run Tryd.prog w = .ok (.func fn first cap) w := fun _ _ _ _ => rfl
  clear h
  go_enter Tryd.func16, Tryd.ntmps16
  go_wp2_with fail
  generalize hW : World.alloc (World.alloc (World.alloc w _) _) _ = W
  have C1 : Blk W w.heap.size #[.slice a1 xs.length c1] 24 := by rw [← hW]; exact ((Blk.new w _ _).alloc _).alloc _
  have C2 : Blk W (w.heap.size + 1) #[.slice a2 ys.length c2] 24 := by rw [← hW]; exact (Blk.new' _ _ (by simp)).alloc _
  have C3 : Blk W (w.heap.size + 1 + 1) #[.int .i64 1, .int .i64 2, .int .i64 3] 3 := by rw [← hW]; exact Blk.new' _ _ (by simp)
  have hb0 : Below w.heap.size w W := by rw [← hW]; exact (((Below.refl _ _).alloc (Nat.le_refl _) _).alloc (by simp) _).alloc (by simp; omega) _
  clear hW
  refine (lvlLeast a1 a2 c1 c2 xs ys _ _ _ W (H.out.below hb0 (Nat.le_refl _)) C1 C2 (fun w' k hb hk => ?_)).mono ?_
  · have D := C3.below hb C3.lt
    rcases (show k = 0 ∨ k = 1 ∨ k = 2 by omega) with rfl | rfl | rfl
    · exact D.cell 0
    · exact D.cell 1
    · exact D.cell 2
  rintro e w1 ⟨⟨o, rfl⟩, hc⟩
  have hb1 := hb0.trans (hc.mono hb0.size)
  clear hc C1 C2 C3 hb0
  go_wp2
  go_ret
  exact ⟨rfl, hb1⟩
set_option maxHeartbeats 800000 in
theorem specLevelFor (a1 a2 : Option Addr) (c1 c2 : Nat) (xs ys : List Int) (w : World) (h : SetIn w a1 a2 xs ys) :
    Calls Tryd.prog 32 #[.slice a1 xs.length c1, .slice a2 ys.length c2] w fun e w' => e = .returned (.int .i64 (lvlF xs ys)) ∧ Below w.heap.size w w' := by
  have H : Hid (SetIn w a1 a2 xs ys) := h
  clear h
  go_enter Tryd.func32, Tryd.ntmps32
  go_wp2
  go_loopw [5] (fun i wr => ∃ k : Nat, k ≤ 3 ∧ i = .int .i64 ((k : Int) + 1) ∧ Hid (∀ j : Nat, j < k → seqB ((j : Int) + 1) 3 xs ys = false) ∧ Below w.heap.size w wr)
    (fun i _ => 4 - (intOf i).toNat)
  case atStart => exact ⟨0, by omega, rfl, fun i hi => by omega, Below.refl _ _⟩
  case round =>
    obtain ⟨k, hk, rfl, HN, hb⟩ := hrel
    have l0 : (0 : Int) ≤ (k : Int) := by omega
    by_cases hlt : k < 3
    · have l1 : (k : Int) < 3 := by omega
      have HI := H.out.below hb (Nat.le_refl _)
      have HS : Hid (∀ w', w' = wr → Calls Tryd.prog 49 #[.agg #[.int .i64 ((k : Int) + 1), .int .i64 3, .slice a1 xs.length c1, .slice a2 ys.length c2]] w' (fun e w'' => e = .returned (.bool (seqB ((k : Int) + 1) 3 xs ys)) ∧ Below w'.heap.size w' w'')) := fun w' e => by subst e; exact specSeqOk _ _ _ _ _ _ _ _ _ HI.1.1 HI.1.2.1 HI.2.1 HI.2.2
      clear HI
      cases hs : seqB ((k : Int) + 1) 3 xs ys with
      | true =>
        have HV : Hid (lvlF xs ys = (k : Int) + 1) := lvlF_hit hlt hs HN.out
        rw [hs] at HS
        clear hs
        go_wp2_with (go_at_call 49; refine (HS.out _ rfl).mono ?_; rintro e w1 ⟨rfl, hc1⟩)
        go_ret
        exact ⟨by rw [HV.out]; rfl, hb.trans (hc1.mono hb.size)⟩
      | false =>
        have HV : Hid (seqB ((k : Int) + 1) 3 xs ys = false) := hs
        rw [hs] at HS
        clear hs
        go_wp2_with (go_at_call 49; refine (HS.out _ rfl).mono ?_; rintro e w1 ⟨rfl, hc1⟩)
        go_roundw
        case rel => exact ⟨k + 1, by omega, by go_num, fun i hi => by
          rcases Nat.lt_succ_iff_lt_or_eq.1 hi with h | rfl
          · exact HN.out i h
          · exact HV.out, hb.trans (hc1.mono hb.size)⟩
        case measure => simp [intOf]; omega
    · obtain rfl : k = 3 := by omega
      have HV : Hid (lvlF xs ys = 0) := lvlF_no HN.out
      go_wp2
      go_ret
      exact ⟨by rw [HV.out]; rfl, hb⟩
end Go.Proofs.YtigcoboaeibcjaaDoor
