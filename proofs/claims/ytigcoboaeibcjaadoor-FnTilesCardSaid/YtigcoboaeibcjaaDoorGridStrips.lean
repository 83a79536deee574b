/-
  Strips: the walks of impl's strip.behind, strip.has, stripsOf.
-/
import Derived.Test.YtigcoboaeibcjaaDoorGridTops
import Derived.Test.YtigcoboaeibcjaaDoorGrowKit
import Derived.Deep.AppendLies
namespace Go.Proofs.YtigcoboaeibcjaaDoor
open Go.RowKit
set_option linter.unusedVariables false
set_option maxRecDepth 20000

theorem behind_any (n f s : Int) (w : World) (h0 : 0 ≤ f) (h1 : f ≤ 1000) (h2 : 0 ≤ s) (h3 : s ≤ 1000) :
    Calls Tryd.prog 57 #[.agg #[.int .i64 n, .int .i64 f, .int .i64 s]] w fun e w' => e = .returned (.int .i64 (f + s)) ∧ Below w.heap.size w w' := by
  go_enter Tryd.func57, Tryd.ntmps57
  go_wp2
  go_ret
  exact ⟨rfl, by go_grown⟩
/-- The cells of the first k strips. -/
def strL (xs : List Int) : Nat → List Value
  | 0 => []
  | k + 1 => strL xs k ++ [.int .i64 (k : Int), .int .i64 (8 * sumT xs k), .int .i64 (8 * xs.getD k 0)]
theorem strL_len (xs : List Int) : ∀ k, (strL xs k).length = k * 3
  | 0 => rfl
  | k + 1 => by rw [strL, List.length_append, strL_len xs k]; simp; omega
theorem strL_zero (xs : List Int) : strL xs 0 = [] := rfl
theorem strL_succ (xs : List Int) (k : Nat) : strL xs (k + 1) = strL xs k ++ [.int .i64 (k : Int), .int .i64 (8 * sumT xs k), .int .i64 (8 * xs.getD k 0)] := rfl
theorem infoS : (Tryd.prog.info? 73).map (fun i => (i.zero, i.size, i.bytes)) = some (some (.agg #[.int .i64 0, .int .i64 0, .int .i64 0]), 3, 24) := by kernel_rfl

set_option maxHeartbeats 1600000 in
theorem stripsOf_any (a : Option Addr) (cap : Nat) (xs : List Int) (w : World) (ht : Ints w a xs) (hg : goodT xs xs.length) (hl : xs.length ≤ 4) :
    Calls Tryd.prog 46 #[.slice a xs.length cap] w fun e w' => ∃ v, e = .returned v ∧ w'.ownsRow w.heap.size 73 3 v xs.length (strL xs xs.length) ∧ Below w.heap.size w w' := by
  obtain ⟨i0, hi0, hz0, hz1, hz2⟩ := info_parts infoS
  have HT : Hid (Ints w a xs) := ht
  have HG : Hid (goodT xs xs.length) := hg
  clear ht hg
  have hl' : (xs.length : Int) ≤ 4 := by omega
  go_enter Tryd.func46, Tryd.ntmps46
  go_wp2_with (at_make; refine wpList_make_own _ (by rfl) _ _ 74 (by rfl) w.heap.size 73 i0 (.agg #[.int .i64 0, .int .i64 0, .int .i64 0]) 3 Tryd.underlying74 hi0 hz0 hz1 .i64 .i64 _ xs.length (by rfl) (by rfl) (by omega) (by rw [hz2]; omega) (by unfold maxLen; omega) (Nat.le_refl _) ?_; intro w1 hown0 hgrow0)
  have hb0 : Below w.heap.size w w1 := (Below.refl _ _).grown hgrow0 (Nat.le_refl _) (fun j hj => by cases hj)
  clear hgrow0
  go_loopw [3, 4, 13] (fun v f i wr => ∃ k : Nat, k ≤ xs.length ∧ i = .int .i64 k ∧ f = .int .i64 (8 * sumT xs k) ∧ wr.ownsRow w.heap.size 73 3 v k (strL xs k) ∧ Below w.heap.size w wr)
    (fun _ _ i _ => xs.length - (intOf i).toNat)
  case atStart => exact ⟨0, Nat.zero_le _, rfl, rfl, hown0, hb0⟩
  case round =>
    obtain ⟨k, hk, rfl, rfl, hown, hb⟩ := hrel
    clear hown0 hb0
    by_cases hlt : k < xs.length
    · rcases HT.out with h | ⟨b, off, rfl, hgb, hc⟩
      · rw [h] at hlt; simp at hlt
      have d1 : wr.cell? ⟨b, off + k, none⟩ = some (.int .i64 (xs.getD k 0)) := (hb.cell (p := ⟨b, off + k, none⟩) hgb).trans (hc k hlt)
      have HS : Hid (sumT xs (k + 1) = sumT xs k + xs.getD k 0) := sumT_succ xs k hlt
      have HL : Hid (strL xs (k + 1) = strL xs k ++ [.int .i64 (k : Int), .int .i64 (8 * sumT xs k), .int .i64 (xs.getD k 0 * 8)]) := by rw [Int.mul_comm (xs.getD k 0)]; rfl
      obtain ⟨s0, s1⟩ := sumT_bd xs k hk (fun i hi => HG.out i (by omega))
      obtain ⟨x0, x1⟩ := HG.out k hlt
      clear hc
      have l0 : (0 : Int) ≤ (k : Int) := by omega
      have l1 : (k : Int) < (xs.length : Int) := by omega
      generalize sumT xs k = s at *
      generalize xs.getD k 0 = x at *
      have ho2 := (hown.alloc (.cells #[.int .i64 (k : Int), .int .i64 (8 * s), .int .i64 (x * 8)] 73)).alloc (.cells #[.int .i64 (k : Int), .int .i64 (8 * s), .int .i64 (x * 8)] 73)
      have hb2 := (hb.alloc hb.size (.cells #[.int .i64 (k : Int), .int .i64 (8 * s), .int .i64 (x * 8)] 73)).alloc (by have := hb.size; simp; omega) (.cells #[.int .i64 (k : Int), .int .i64 (8 * s), .int .i64 (x * 8)] 73)
      have HO : Hid (Blk _ _ _ _) := (Blk.new wr #[.int .i64 (k : Int), .int .i64 (8 * s), .int .i64 (x * 8)] 73).alloc (.cells #[.int .i64 (k : Int), .int .i64 (8 * s), .int .i64 (x * 8)] 73)
      have hlt3 := hown.lt
      have hsz := hb.size
      go_wp2_with (first
        | (at_builtin; refine wpList_append_lies _ (by rfl) _ _ 74 (by rfl) w.heap.size 73 i0 (.agg #[.int .i64 0, .int .i64 0, .int .i64 0]) 3 24 Tryd.underlying74 hi0 hz0 hz1 hz2 rfl (by omega) u3 k _ (by rfl) ho2 ⟨wr.heap.size + 1, 0, none⟩ 1 1 [.int .i64 (k : Int), .int .i64 (8 * s), .int .i64 (x * 8)] (by rfl) (by rfl) (World.news_of_block (cs := #[.int .i64 (k : Int), .int .i64 (8 * s), .int .i64 (x * 8)]) (t := 73) (fr := (0, 0)) (Blk.new' _ _ (by simp))) (by simp [Value.oneCell']) (by omega) (by unfold maxLen; omega) (by omega) (by simp; omega) (wr.heap.size + 1 + 1) (by simp) ?_; intro gg cp w4 hown2 hgrow hat hlt2; have O4 := HO.out.grown hgrow (by intro e; have := hlt3 _ e.symm; omega); obtain ⟨⟨y0, y1, y2⟩, _⟩ := O4.three)
        | (go_at_call 57; refine (behind_any _ _ _ _ (by omega) (by omega) (by omega) (by omega)).mono ?_; rintro e w5 ⟨rfl, hc5⟩))
      have hb4 := hb2.grown hgrow (by simp; omega) (fun j hj => (hlt3 j hj).1)
      have hb5 := hb4.trans (hc5.mono hb4.size)
      have hown5 := hown2.kept (grown_of_below hc5 none) (.inr (by simp [Value.ownBlock]))
      rw [← HL.out] at hown5
      go_roundw
      case rel => exact ⟨k + 1, by omega, by go_num, by rw [HS.out]; congr 1; omega, hown5, hb5⟩
      case measure => simp [intOf]; omega
    · obtain rfl : k = xs.length := by omega
      go_wp2
      go_ret
      exact ⟨_, rfl, hown, hb⟩
end Go.Proofs.YtigcoboaeibcjaaDoor
