/-
  The walk of bits.TrailingZeros8.
-/
import Derived.Test.YtdokmojifkggjaaDoorRows
import Derived.Test.YtdokmojifkggjaaDoorMSetMath
import Derived.WalkKit
import Derived.OwnWalk
import Derived.KernelRfl
import Derived.Lib.BitFns
namespace Go.Proofs.YtdokmojifkggjaaDoor
open Go.RowKit
set_option linter.unusedVariables false
set_option maxRecDepth 20000

/-- An index into a text that is a constant of the program. -/
theorem wpList_index_const {P : Program} {w : World} {ops : Array Oper} {rest : List Oper} {o : Oper} {a : Act} {Q : Exit → Act → World → Prop} (hg : o.guard = none) (t : TypeId) (S : ByteArray) (x : Operand) (hop : o.op = Op.index t (.const (.string S)) x)
    (S' : ByteArray) (hS : S = S') (ht : P.underlying t = some .string) (k : IntKind) (i : Int) (hx : a.eval x = .int k i) (h0 : 0 ≤ i) (h1 : i < S'.size) (v : Int) (hv : (((S'[i.toNat]?).getD 0).toNat : Int) = v)
    (h : wpList P ops Q rest (a.put o.dst (.int .u8 v)) w) : wpList P ops Q (o :: rest) a w := by
  subst hS
  refine wpList_plain hg fun K hK => ?_
  have h2 : i.toNat < S.size := by omega
  have hr : (Instr.index t (.string S) (.int k i)).run P w = .ok (.int .u8 v) w := by
    rw [run_index_string w t S k i ht, dif_pos ⟨h0, h1⟩, ← hv]
    simp [h2]
  have hc : a.eval (.const (.string S)) = .string S := rfl
  unfold Oper.wp execOp
  simp only [hop, hx, hc, hr, Sem.run_bind, Sem.run_pure, Result.andThen_ok]
  exact hK _ _ h
theorem tz_tab (x : Int) (h0 : 0 < x) (h1 : x ≤ 255) : (((Lib.ntz8tab[x.toNat]?).getD 0).toNat : Int) = (tzI x : Int) := by
  obtain ⟨n, rfl⟩ := Int.eq_ofNat_of_zero_le (Int.le_of_lt h0)
  have key : ∀ n : Fin 256, 0 < n.val → Lib.ntz8 (n.val : Int) = (tzI (n.val : Int) : Int) := by decide +kernel
  exact key ⟨n, by omega⟩ (by simp; omega)
set_option maxHeartbeats 400000 in
theorem tz_any (x : Int) (w : World) (h0 : 0 < x) (h1 : x ≤ 255) :
    Calls Tryd.prog 62 #[.int .u8 x] w fun e w' => e = .returned (.int .i64 (tzI x)) ∧ w' = w := by
  have hlt := tzI_lt x
  go_enter Tryd.func62, Tryd.ntmps62
  go_wp2_with (refine wpList_index_const (by rfl) _ _ _ (by rfl) Lib.ntz8tab (by kernel_rfl) Tryd.underlying9 .u8 x (by rfl) (by omega) (by rw [Lib.ntz8tab_size]; omega) _ (tz_tab x h0 h1) ?_)
  go_ret
  exact ⟨rfl, rfl⟩
end Go.Proofs.YtdokmojifkggjaaDoor
