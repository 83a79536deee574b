/-
  The types of a square of eight: sizes, and what is a row; the walk of (impl.eightRow).sum.
-/
import Derived.Test.YtlejfkjanllgbaaDoorSqRun
import Derived.Test.YtlejfkjanllgbaaDoorEightMath
import Derived.Test.YtlejfkjanllgbaaDoorSignWalk
import Derived.Deep.WholeRow
import Derived.BigQuiet
namespace Go.Proofs.YtlejfkjanllgbaaDoor
open Go.RowKit
set_option linter.unusedVariables false
set_option maxRecDepth 20000

theorem size55 : (Tryd.prog.info? 104).map (·.size) = some 64 := by kernel_rfl
theorem size53 : (Tryd.prog.info? 102).map (·.size) = some 8 := by kernel_rfl
/-- Numbers of at most M, of both signs. -/
def Wi (M : Int) (n : Nat) (f : Nat → Int) : Prop := ∀ i, i < n → -M ≤ f i ∧ f i ≤ M

set_option maxHeartbeats 800000 in
theorem sum_any (r : Nat → Int) (u : Nat) (w : World) (hr : Wi 100000000 8 r) (hu : u < 8) :
    Calls Tryd.prog 127 #[.agg (arr 8 r), .int .i64 (u : Int)] w fun e w' => e = .returned (.int .i64 (dot u r)) ∧ Below w.heap.size w w' := by
  have HR : Hid (Wi 100000000 8 r) := hr
  have HD : Hid (dot u r = sumTo (fun p => sg u p * r p) 8) := rfl
  have HB : Hid (∀ k : Nat, k ≤ 8 → -((k : Int) * 100000000) ≤ sumTo (fun p => sg u p * r p) k ∧ sumTo (fun p => sg u p * r p) k ≤ (k : Int) * 100000000) := fun k hk => sumTo_bd (fun i hi => sg_bd u i (hr i (by omega)))
  have HC : Hid (∀ (k : Nat) w', k < 8 → Calls Tryd.prog 129 #[.int .i64 (u : Int), .int .i64 (k : Int)] w' (fun e w'' => e = .returned (.int .i64 (sg u k)) ∧ w'' = w')) := fun k w' hk => implSign u k w' hu hk
  clear hr hu
  go_enter Tryd.func127, Tryd.ntmps127
  go_wp2_with fail
  generalize hW : World.alloc w _ = W
  have B0 : Blk W w.heap.size (arr 8 r) 102 := by rw [← hW]; exact Blk.new w _ _
  have hb0 : Below w.heap.size w W := by rw [← hW]; exact (Below.refl _ _).alloc (Nat.le_refl _) _
  clear hW
  generalize hs : w.heap.size = s at *
  go_loopw [5, 7] (fun v i wr => ∃ k : Nat, k ≤ 8 ∧ i = .int .i64 (k : Int) ∧ v = .int .i64 (sumTo (fun p => sg u p * r p) k) ∧ Blk wr s (arr 8 r) 102 ∧ Below s w wr) (fun _ i _ => 8 - (intOf i).toNat)
  case atStart => exact ⟨0, by omega, rfl, rfl, B0, hb0⟩
  case round =>
    obtain ⟨k, hk, rfl, rfl, b0, hb⟩ := hrel
    clear B0 hb0
    by_cases hlt : k < 8
    · have l0 : (0 : Int) ≤ (k : Int) := by omega
      have l1 : (k : Int) < 8 := by omega
      obtain ⟨t0, t1⟩ := HB.out k hk
      obtain ⟨x0, x1⟩ := HR.out k hlt
      have d0 : wr.cell? ⟨s, k, none⟩ = some (.int .i64 (r k)) := by rw [b0.cell, arr_get r hlt]
      have HN : Hid (sumTo (fun p => sg u p * r p) (k + 1) = sumTo (fun p => sg u p * r p) k + sg u k * r k) := rfl
      have HCk : Hid (∀ w', Calls Tryd.prog 129 #[.int .i64 (u : Int), .int .i64 (k : Int)] w' (fun e w'' => e = .returned (.int .i64 (sg u k)) ∧ w'' = w')) := fun w' => HC.out k w' hlt
      have hsg := sg_one u k
      generalize sumTo (fun p => sg u p * r p) k = t at *
      generalize r k = x at *
      have hk8 : (k : Int) ≤ 8 := by omega
      have tb0 : -800000000 ≤ t := by omega
      have tb1 : t ≤ 800000000 := by omega
      clear t0 t1
      rcases hsg with h1 | h1
      · rw [h1] at HN HCk
        clear h1
        go_wp2_with fail
        go_quiet ((go_at_call 129; exact Calls.quiet_of_same (HCk.out _)))
        go_wp2
        refine ⟨⟨k + 1, by omega, by go_num, by rw [HN.out]; go_num, b0, below_drewN hb _⟩, ?_⟩
        simp [intOf]; omega
      · rw [h1] at HN HCk
        clear h1
        go_wp2_with fail
        go_quiet ((go_at_call 129; exact Calls.quiet_of_same (HCk.out _)))
        go_wp2
        refine ⟨⟨k + 1, by omega, by go_num, by rw [HN.out]; go_num, b0, below_drewN hb _⟩, ?_⟩
        simp [intOf]; omega
    · obtain rfl : k = 8 := by omega
      go_wp2
      go_ret
      exact ⟨by rw [HD.out]; rfl, by rw [hs]; exact hb⟩
end Go.Proofs.YtlejfkjanllgbaaDoor
