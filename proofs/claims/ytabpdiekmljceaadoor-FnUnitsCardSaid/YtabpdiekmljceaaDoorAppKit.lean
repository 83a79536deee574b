/-
  append(row, other...) on rows of texts, whatever the lengths; where an operation's run is known, and in a region that draws its order.
-/
import Derived.Test.YtabpdiekmljceaaDoorUnitTexts
import Derived.Laws.OwnMore
namespace Go.Proofs.YtabpdiekmljceaaDoor
open Go.RowKit
set_option linter.unusedVariables false

/-- append, its run being known. -/
theorem wpList_append_run {P : Program} {w : World} {ops : Array Oper} {rest : List Oper} {o : Oper} {a : Act} {Q : Exit → Act → World → Prop} (hgd : o.guard = none) (s x : Operand) (t u : TypeId)
    (ho : o.op = .call { callee := .builtin .append, args := #[s, x], argTypes := #[t, u] }) (v y v' : Value) (w' : World) (hs : a.eval s = v) (hx : a.eval x = y)
    (hr : (Builtin.append_ #[t, u] o.type #[v, y]).run P w = .ok v' w') (h : wpList P ops Q rest (a.put o.dst v') w') : wpList P ops Q (o :: rest) a w := by
  refine wpList_plain hgd fun K hK => ?_
  unfold Oper.wp execOp
  simp only [ho, resolve, invoke, builtin, Sem.run_bind, Sem.run_pure, Result.andThen_ok, List.map_toArray, List.map_cons, List.map_nil, hs, hx, hr]
  exact hK _ _ h
/-- The same at a step of a region that draws its order. -/
theorem step_append_run {P : Program} {w : World} {ops : Array Oper} {o : Oper} {a : Act} {K : Act → World → Prop} {Q : Exit → Act → World → Prop} {E : Prop} (hgd : o.guard = none) (s x : Operand) (t u : TypeId)
    (ho : o.op = .call { callee := .builtin .append, args := #[s, x], argTypes := #[t, u] }) (v y : Value) (hs : a.eval s = v) (hx : a.eval x = y)
    (R : Value → World → Prop) (hr : ∃ v' w', (Builtin.append_ #[t, u] o.type #[v, y]).run P w = .ok v' w' ∧ R v' w') (h : ∀ v' w', R v' w' → K (a.put o.dst v') w') :
    if Region.wanted o (yielded ops a.tmps) = true then Oper.wp P o a w K Q else E := by
  have hw : Region.wanted o (yielded ops a.tmps) = true := by simp [Region.wanted, hgd]
  rw [if_pos hw]
  obtain ⟨v', w', hr, hR⟩ := hr
  unfold Oper.wp execOp
  simp only [ho, resolve, invoke, builtin, Sem.run_bind, Sem.run_pure, Result.andThen_ok, List.map_toArray, List.map_cons, List.map_nil, hs, hx, hr]
  exact h v' w' hR
theorem app_texts (W : World) (base n g off m c : Nat) (v : Value) (xs : List Value) (ys : List ByteArray) (hown : W.ownsRow base 9 1 v n xs) (hbase : base ≤ W.heap.size) (hm : ys.length = m)
    (hcell : ∀ j, j < m → W.cell? ⟨g, off + j, none⟩ = some (.string (ys.getD j ByteArray.empty))) (hsm : n + m ≤ 1000) (hv : v ≠ .slice none 0 0) :
    ∃ g' c' W', (Builtin.append_ #[24, 24] 24 #[v, .slice (some ⟨g, off, none⟩) m c]).run Tryd.prog W = .ok (.slice (some ⟨g', 0, none⟩) (n + m) c') W' ∧ W'.ownsRow base 9 1 (.slice (some ⟨g', 0, none⟩) (n + m) c') (n + m) (xs ++ ys.map Value.string) ∧ W.grownBy W' v.ownBlock := by
  obtain ⟨i0, hi0, hz0, hz1, hz2⟩ := info_parts infoS
  obtain ⟨v', W', hr, ho, hg, hiff⟩ := run_append_own (P := Tryd.prog) W base 24 24 9 i0 (.string ByteArray.empty) 1 16 Tryd.underlying24 hi0 hz0 hz1 hz2 rfl (by omega) v n xs hown ⟨g, off, none⟩ m c (ys.map Value.string) (by simp [hm]) (fun j u h => by
    have hj : j < ys.length := by
      have := (List.getElem?_eq_some_iff.1 h).1
      simpa using this
    have hadd : (⟨g, off, none⟩ : Addr).add j = ⟨g, off + j, none⟩ := by unfold Addr.add; split <;> simp_all
    rw [hadd, hcell j (by omega), ← h]
    simp [List.getElem?_eq_getElem hj]) (by
    intro u hu
    obtain ⟨y, _, rfl⟩ := List.mem_map.1 hu
    rfl) (by unfold maxLen; omega) (by omega) hbase
  rcases ho.2 with ⟨h0, _⟩ | ⟨g', c', cur, rfl, _⟩
  · exact absurd (hiff.1 h0).1 hv
  · exact ⟨g', c', W', hr, ho, hg⟩
end Go.Proofs.YtabpdiekmljceaaDoor
