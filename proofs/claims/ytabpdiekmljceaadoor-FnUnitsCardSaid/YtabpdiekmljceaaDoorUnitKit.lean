/-
  What the walks of units share: the counter that a closure keeps, rows of bytes beside it, and the two walks of the closure.
-/
import Derived.Test.YtabpdiekmljceaaDoorFixKit
import Derived.Test.YtabpdiekmljceaaDoorUnitMath
import Derived.OneCell
import Derived.Deep.AppendLies
namespace Go.Proofs.YtabpdiekmljceaaDoor
open Go.RowKit
set_option linter.unusedVariables false
attribute [local go_sem ↓] Go.wp_at_zero Go.wp_at_succ

/-- The block that the closure keeps its counter in. -/
def Cnt (w : World) (B z : Nat) : Prop := w.heap[B]? = some (.cells #[.int .i64 z] 3 (0, 0))
theorem grown_set (w : World) (b : Nat) (v : Value) : w.grownBy (w.setCell ⟨b, 0, none⟩ v) (some b) :=
  ⟨rfl, rfl, rfl, by simp [World.setCell], fun k _ hk => Below.heap_setCell w _ v k fun h => hk (by rw [h])⟩
theorem Cnt.lt {w : World} {B z : Nat} (h : Cnt w B z) : B < w.heap.size := lt_of_block h
theorem Cnt.kept {w w' : World} {B z : Nat} {row : Option Nat} (h : Cnt w B z) (hg : w.grownBy w' row) (hne : some B ≠ row) : Cnt w' B z := (hg.block B h.lt hne).trans h
theorem Cnt.apart {w : World} {B z base e n : Nat} {v : Value} {xs : List Value} (h : Cnt w B z) (ho : w.ownsRow base e 1 v n xs) (he : e ≠ 3) : v.ownBlock ≠ some B := by
  rcases ho.2 with ⟨rfl, _⟩ | ⟨g, cap, cur, rfl, _, hg, _⟩
  · simp [Value.ownBlock]
  · simp only [Value.ownBlock]
    intro h'
    simp at h'
    subst h'
    unfold Cnt at h
    rw [hg] at h
    simp at h
    exact he h.2
/-- A row that was appended to, beside the counter. -/
theorem cnt_app {w wr w1 : World} {base B z e n : Nat} {v : Value} {xs : List Value} {o : Obj} (hc : Cnt wr B z) (ho : wr.ownsRow base e 1 v n xs) (he : e ≠ 3) (hb : Below base w wr) (hB : base ≤ wr.heap.size) (hg : (wr.alloc o).grownBy w1 v.ownBlock) :
    Cnt w1 B z ∧ Below base w w1 :=
  ⟨(hc.kept (World.grownBy_alloc wr o none) (by simp)).kept hg fun h => hc.apart ho he h.symm,
   (hb.alloc hB o).grown hg (by simp; omega) fun j hj => (ho.lt j hj).1⟩

theorem putLast_any (w : World) :
    Calls Tryd.prog 31 #[] w fun e w' => e = .returned (.func (Fn.func 39) #[] #[.pointer (some ⟨w.heap.size, 0, none⟩)]) ∧ Cnt w' w.heap.size 0 ∧ w.grownBy w' none := by
  have hmf : ∀ (fn : Fn) (first cap : Array Value) (w : World), (Instr.makeFunc fn first cap).run Tryd.prog w = .ok (.func fn first cap) w := fun _ _ _ _ => rfl
  have h0 : Cnt (w.alloc (.cells #[.int .i64 0] 3)) w.heap.size 0 := heap_alloc_new w _
  have c0 := cell_of_one h0
  go_enter Tryd.func31, Tryd.ntmps31
  go_wp2
  go_ret
  exact ⟨rfl, h0, World.grownBy_alloc w _ none⟩

theorem put_any (B z : Nat) (b : Int) (w : World) (hc : Cnt w B z) (hz : (z : Int) ≤ 2000000) (h0 : 0 ≤ b) (h1 : b ≤ 255) :
    Calls Tryd.prog 39 #[.int .u8 b, .pointer (some ⟨B, 0, none⟩)] w fun e w' => e = .returned (.bool (decide (2 ≤ nx z b))) ∧ Cnt w' B (nx z b) ∧ w.grownBy w' (some B) := by
  have c0 := cell_of_one hc
  have f0 := free_of_one hc
  have h2 := one_setCell (u := .int .i64 (z + 1)) hc
  have c2 := cell_of_one h2
  have f2 := free_of_one h2
  have h3 := one_setCell (u := .int .i64 0) h2
  have c3 := cell_of_one h3
  have f3 := free_of_one h3
  have g2 := grown_set w B (.int .i64 (z + 1))
  have g3 := grown_set (w.setCell ⟨B, 0, none⟩ (.int .i64 (z + 1))) B (.int .i64 0)
  have HN : Hid (nx z b = if b = 0 then z + 1 else 0) := rfl
  by_cases hb : b = 0
  · subst hb
    go_enter Tryd.func39, Tryd.ntmps39
    go_wp2
    go_ret
    refine ⟨?_, ?_, g2⟩
    · show _ = Ending.returned (.bool (decide (2 ≤ z + 1)))
      congr 2
      simp
      omega
    · exact h2
  · have hb' : (b != 0) = true := by simp [hb]
    go_enter Tryd.func39, Tryd.ntmps39
    go_wp2
    go_ret
    rw [HN.out, if_neg hb]
    exact ⟨rfl, h3, g2.trans g3⟩
end Go.Proofs.YtabpdiekmljceaaDoor
