/-
  append([]byte{z}, code...): a code of one byte more.
-/
import Derived.Test.YtlejfkjanllgbaaCodeKit
import Derived.Laws.OwnMore
import Derived.Deep.AppendLies
namespace Go.Proofs.Ytlejfkjanllgbaa
open Go.RowKit
set_option linter.unusedVariables false
set_option maxRecDepth 20000

/-- append, its run being known. -/
theorem wpList_append_knownM {P : Program} {w : World} {ops : Array Oper} {rest : List Oper} {o : Oper} {a : Act} {Q : Exit → Act → World → Prop} (hgd : o.guard = none) (s x : Operand) (t u : TypeId)
    (ho : o.op = .call { callee := .builtin .append, args := #[s, x], argTypes := #[t, u] }) (v y v' : Value) (w' : World) (hs : a.eval s = v) (hx : a.eval x = y)
    (hr : (Builtin.append_ #[t, u] o.type #[v, y]).run P w = .ok v' w') (h : wpList P ops Q rest (a.put o.dst v') w') : wpList P ops Q (o :: rest) a w := by
  refine wpList_plain hgd fun K hK => ?_
  unfold Oper.wp execOp
  simp only [ho, resolve, invoke, builtin, Sem.run_bind, Sem.run_pure, Result.andThen_ok, List.map_toArray, List.map_cons, List.map_nil, hs, hx, hr]
  exact hK _ _ h

/-- append([]byte{z}, code...): a code of one byte more. -/
theorem more_byte (z : Int) (z0 : 0 ≤ z) (z1 : z ≤ 255) (w W : World) (a : Option Addr) (len cap : Nat) (hc : CodeIn w a len cap) (hb : Below w.heap.size w W) :
    ∃ gg cp W', (Builtin.append_ #[22, 22] 22 #[.slice (some ⟨W.heap.size, 0, none⟩) 1 1, .slice a len cap]).run Try.prog (W.alloc (.cells #[.int .u8 z] 5)) = .ok (.slice (some ⟨gg, 0, none⟩) (len + 1) cp) W' ∧
      CodeRow W' W'.heap.size (some ⟨gg, 0, none⟩) (len + 1) ∧ Below w.heap.size w W' := by
  obtain ⟨i0, hi0, hz0, hz1, hz2⟩ := info_parts infoB
  obtain ⟨hlen, hnil, h2m, hrow⟩ := hc
  have hown : (W.alloc (.cells #[.int .u8 z] 5)).ownsRow w.heap.size 5 1 (.slice (some ⟨W.heap.size, 0, none⟩) 1 1) 1 [.int .u8 z] := World.ownsRow_lit W #[.int .u8 z] 1 hb.size (by unfold maxLen; omega) rfl
  have hbA : Below w.heap.size w (W.alloc (.cells #[.int .u8 z] 5)) := hb.alloc hb.size _
  have fin : ∀ (gg cp : Nat) (W' : World) (f : Nat → Int), (∀ j, j < len → 0 ≤ f j ∧ f j ≤ 255) → W'.ownsRow w.heap.size 5 1 (.slice (some ⟨gg, 0, none⟩) (len + 1) cp) (len + 1) (.int .u8 z :: (List.range len).map fun j => .int .u8 (f j)) → CodeRow W' W'.heap.size (some ⟨gg, 0, none⟩) (len + 1) := by
    intro gg cp W' f hf ho
    refine ⟨by omega, .inr ⟨gg, 0, rfl, (ho.lt gg rfl).2, fun j hj => ?_⟩⟩
    rw [Nat.zero_add, ho.cellAt j (by omega)]
    cases j with
    | zero => exact ⟨z, z0, z1, rfl⟩
    | succ j =>
      have := hf j (by omega)
      exact ⟨f j, this.1, this.2, by simp [show j < len by omega]⟩
  cases a with
  | none =>
    obtain ⟨rfl, rfl⟩ := hnil rfl
    exact ⟨_, _, _, run_append_owned_none (P := Try.prog) _ w.heap.size 22 22 5 i0 1 Try.underlying22 hi0 _ 1 _ hown, fin _ 1 _ (fun _ => 0) (fun j hj => by omega) hown, hbA⟩
  | some x =>
    obtain ⟨f, hf, hn⟩ : ∃ f : Nat → Int, (∀ j, j < len → 0 ≤ f j ∧ f j ≤ 255) ∧ ∀ j u, ((List.range len).map fun j => Value.int .u8 (f j))[j]? = some u → (W.alloc (.cells #[.int .u8 z] 5)).cell? (x.add j) = some u := by
      rcases hrow with rfl | ⟨b, off, hx, hlt, hcell⟩
      · exact ⟨fun _ => 0, fun j hj => by omega, fun j u h => by simp at h⟩
      · cases hx
        refine ⟨fun j => if h : j < len then (hcell j h).choose else 0, fun j hj => ?_, fun j u h => ?_⟩
        · simp only [dif_pos hj]
          have := (hcell j hj).choose_spec
          exact ⟨this.1, this.2.1⟩
        · have hj : j < len := by
            have := (List.getElem?_eq_some_iff.1 h).1
            simpa using this
          have hadd : (⟨b, off, none⟩ : Addr).add j = ⟨b, off + j, none⟩ := by unfold Addr.add; split <;> simp_all
          rw [hadd, hbA.cell (p := ⟨b, off + j, none⟩) hlt, (hcell j hj).choose_spec.2.2, ← h]
          simp [hj]
    obtain ⟨v', W', hr, ho, hg, hnn⟩ := run_append_own (P := Try.prog) _ w.heap.size 22 22 5 i0 (.int .u8 0) 1 1 Try.underlying22 hi0 hz0 hz1 hz2 rfl (by omega) _ 1 _ hown x len cap ((List.range len).map fun j => Value.int .u8 (f j)) (by simp) hn (by simp [Value.oneCell']) (by unfold maxLen; omega) (by omega) hbA.size
    rw [Nat.add_comm 1 len] at ho
    obtain ⟨gg, cp, rfl, _, _⟩ := ho.form (by omega)
    exact ⟨gg, cp, W', hr, fin gg cp W' f hf ho, hbA.grown hg hbA.size (fun k hk => (hown.lt k hk).1)⟩

end Go.Proofs.Ytlejfkjanllgbaa
