/-
  The walk of the law laws.FnRows: a drawn row comes back from its bytes; unlike rows have unlike bytes.
-/
import Derived.Test.YtcbjplmfaanmeaaCodeKit
import Derived.Test.YtcbjplmfaanmeaaBackMath
import Derived.Test.YtcbjplmfaanmeaaBytImpl
import Derived.Test.YtcbjplmfaanmeaaTxtImpl
namespace Go.Proofs.Ytcbjplmfaanmeaa
open Go.RowKit
set_option linter.unusedVariables false

theorem toList_inj {s t : ByteArray} (h : s.toList = t.toList) : s = t := by
  rw [Go.ByteArray.toList_eq, Go.ByteArray.toList_eq] at h
  exact ByteArray.ext (Array.ext' h)
/-- append, its run being known. -/
theorem wpList_append_known {P : Program} {w : World} {ops : Array Oper} {rest : List Oper} {o : Oper} {a : Act} {Q : Exit → Act → World → Prop} (hgd : o.guard = none) (s x : Operand) (t u : TypeId)
    (ho : o.op = .call { callee := .builtin .append, args := #[s, x], argTypes := #[t, u] }) (v y v' : Value) (w' : World) (hs : a.eval s = v) (hx : a.eval x = y)
    (hr : (Builtin.append_ #[t, u] o.type #[v, y]).run P w = .ok v' w') (h : wpList P ops Q rest (a.put o.dst v') w') : wpList P ops Q (o :: rest) a w := by
  refine wpList_plain hgd fun K hK => ?_
  unfold Oper.wp execOp
  simp only [ho, resolve, invoke, builtin, Sem.run_bind, Sem.run_pure, Result.andThen_ok, List.map_toArray, List.map_cons, List.map_nil, hs, hx, hr]
  exact hK _ _ h

/-- append([]byte{7}, code...): a code of one byte more. -/
theorem more_code (w W : World) (a : Option Addr) (len cap : Nat) (hc : CodeIn w a len cap) (hb : Below w.heap.size w W) :
    ∃ gg cp W', (Builtin.append_ #[22, 22] 22 #[.slice (some ⟨W.heap.size, 0, none⟩) 1 1, .slice a len cap]).run Try.prog (W.alloc (.cells #[.int .u8 7] 5)) = .ok (.slice (some ⟨gg, 0, none⟩) (len + 1) cp) W' ∧
      CodeRow W' W'.heap.size (some ⟨gg, 0, none⟩) (len + 1) ∧ Below w.heap.size w W' := by
  obtain ⟨i0, hi0, hz0, hz1, hz2⟩ := info_parts infoB
  obtain ⟨hlen, hnil, h2m, hrow⟩ := hc
  have hown : (W.alloc (.cells #[.int .u8 7] 5)).ownsRow w.heap.size 5 1 (.slice (some ⟨W.heap.size, 0, none⟩) 1 1) 1 [.int .u8 7] := World.ownsRow_lit W #[.int .u8 7] 1 hb.size (by unfold maxLen; omega) rfl
  have hbA : Below w.heap.size w (W.alloc (.cells #[.int .u8 7] 5)) := hb.alloc hb.size _
  have fin : ∀ (gg cp : Nat) (W' : World) (f : Nat → Int), (∀ j, j < len → 0 ≤ f j ∧ f j ≤ 255) → W'.ownsRow w.heap.size 5 1 (.slice (some ⟨gg, 0, none⟩) (len + 1) cp) (len + 1) (.int .u8 7 :: (List.range len).map fun j => .int .u8 (f j)) → CodeRow W' W'.heap.size (some ⟨gg, 0, none⟩) (len + 1) := by
    intro gg cp W' f hf ho
    refine ⟨by omega, .inr ⟨gg, 0, rfl, (ho.lt gg rfl).2, fun j hj => ?_⟩⟩
    rw [Nat.zero_add, ho.cellAt j (by omega)]
    cases j with
    | zero => exact ⟨7, by omega, by omega, rfl⟩
    | succ j =>
      have := hf j (by omega)
      exact ⟨f j, this.1, this.2, by simp [show j < len by omega]⟩
  cases a with
  | none =>
    obtain ⟨rfl, rfl⟩ := hnil rfl
    exact ⟨_, _, _, run_append_owned_none (P := Try.prog) _ w.heap.size 22 22 5 i0 1 Try.underlying22 hi0 _ 1 _ hown, fin _ 1 _ (fun _ => 0) (fun j hj => by omega) hown, hbA⟩
  | some x =>
    obtain ⟨f, hf, hn⟩ : ∃ f : Nat → Int, (∀ j, j < len → 0 ≤ f j ∧ f j ≤ 255) ∧ ∀ j u, ((List.range len).map fun j => Value.int .u8 (f j))[j]? = some u → (W.alloc (.cells #[.int .u8 7] 5)).cell? (x.add j) = some u := by
      rcases hrow with rfl | ⟨b, off, hx, hlt, hcell⟩
      · exact ⟨fun _ => 0, fun j hj => by omega, fun j u h => by simp at h⟩
      · cases hx
        refine ⟨fun j => if h : j < len then (hcell j h).choose else 0, fun j hj => ?_, fun j u h => ?_⟩
        · simp only [dif_pos hj]
          have := (hcell j hj).choose_spec
          exact ⟨this.1, this.2.1⟩
        · have hj : j < len := by
            have := (List.getElem?_eq_some_iff.1 h).1
            simpa using this
          have hadd : (⟨b, off, none⟩ : Addr).add j = ⟨b, off + j, none⟩ := by unfold Addr.add; split <;> simp_all
          rw [hadd, hbA.cell (p := ⟨b, off + j, none⟩) hlt, (hcell j hj).choose_spec.2.2, ← h]
          simp [hj]
    obtain ⟨v', W', hr, ho, hg, hnn⟩ := run_append_own (P := Try.prog) _ w.heap.size 22 22 5 i0 (.int .u8 0) 1 1 Try.underlying22 hi0 hz0 hz1 hz2 rfl (by omega) _ 1 _ hown x len cap ((List.range len).map fun j => Value.int .u8 (f j)) (by simp) hn (by simp [Value.oneCell']) (by unfold maxLen; omega) (by omega) hbA.size
    rw [Nat.add_comm 1 len] at ho
    obtain ⟨gg, cp, rfl, _, _⟩ := ho.form (by omega)
    exact ⟨gg, cp, W', hr, fin gg cp W' f hf ho, hbA.grown hg hbA.size (fun k hk => (hown.lt k hk).1)⟩

set_option maxHeartbeats 1600000 in
theorem fnRows_walk (a : Option Addr) (len cap : Nat) (w : World) (hc : CodeIn w a len cap) :
    Calls Try.prog 3 #[.slice a len cap] w fun e w' => e = .returned (.bool true) ∧ Below w.heap.size w w' := by
  have HI : Hid (CodeIn w a len cap) := hc
  have hlen : (len : Int) ≤ 1048576 := hc.1
  clear hc
  go_enter Try.func3, Try.ntmps3
  go_wp2_with fail
  refine (big_any a len cap w hlen).mono ?_
  rintro e w0 ⟨rfl, hw⟩
  subst w0
  go_wp2_with fail
  refine (drawRow_any a len cap w.heap.size _ HI.out.2.2 (Nat.le_refl _)).mono ?_
  rintro e w1 ⟨l1, rfl, hl1, hs1, hb1⟩
  have H1 : Hid (rowB (strOfNums l1) = true) := rowB_of _ (by rw [nums_of l1 (Signs.bd hs1)]; exact hs1)
  have hz1 : (strOfNums l1).size ≤ 60 := by rw [strOfNums_size]; omega
  generalize strOfNums l1 = p at *
  obtain ⟨gg, cp, w2, happ, hcr2, hb2⟩ := more_code w w1 a len cap HI.out hb1
  have HC2 : Hid (CodeRow w2 w2.heap.size (some ⟨gg, 0, none⟩) (len + 1)) := hcr2
  clear hcr2 hs1 hl1
  go_wp2_with (at_builtin; refine wpList_append_known (by rfl) _ _ _ _ (by rfl) _ _ _ _ (by rfl) (by rfl) happ ?_)
  refine (drawRow_any (some ⟨gg, 0, none⟩) (len + 1) cp w2.heap.size _ HC2.out (Nat.le_refl _)).mono ?_
  rintro e w3 ⟨l3, rfl, hl3, hs3, hb3⟩
  have H3 : Hid (rowB (strOfNums l3) = true) := rowB_of _ (by rw [nums_of l3 (Signs.bd hs3)]; exact hs3)
  have hz3 : (strOfNums l3).size ≤ 60 := by rw [strOfNums_size]; omega
  generalize strOfNums l3 = q at *
  clear hs3 hl3 happ
  have b3 : Below w.heap.size w w3 := hb2.trans (hb3.mono hb2.size)
  have K1 : Hid (rowOkB p = true) := by show _ = _; rw [rowOkB_small _ (by omega)]; exact H1.out
  have K3 : Hid (rowOkB q = true) := by show _ = _; rw [rowOkB_small _ (by omega)]; exact H3.out
  go_wp2_with fail
  refine (implBytes p _ K1.out).mono ?_
  rintro e w4 ⟨rfl, hb4⟩
  go_wp2_with fail
  refine (implBytes q _ K3.out).mono ?_
  rintro e w5 ⟨rfl, hb5⟩
  have hback := byT_back p H1.out
  have hbsz := byT_size p
  have hinj := byT_inj p q H1.out H3.out
  have hyes := byT_yes p H1.out (by omega)
  have hcong : p = q → byT p = byT q := fun h => by rw [h]
  rw [show strOfNums (byL p) = byT p from rfl, show strOfNums (byL q) = byT q from rfl]
  have S9 : Hid (∀ W, Calls Try.prog 9 #[.string (byT p)] W fun e w' => e = .returned (.tuple #[.string p, .bool true]) ∧ Below W.heap.size W w') := fun W => by
    have := implTxt (byT p) W hyes
    rw [hback] at this
    exact this
  clear hback hyes
  generalize byT p = s at *
  generalize byT q = t at *
  go_wp2_with fail
  refine (S9.out _).mono ?_
  rintro e w6 ⟨rfl, hb6⟩
  have b6 : Below w.heap.size w w6 := ((b3.trans (hb4.mono b3.size)).trans (hb5.mono (Nat.le_trans b3.size hb4.size))).trans (hb6.mono (Nat.le_trans (Nat.le_trans b3.size hb4.size) hb5.size))
  have z1 : ((s.size : Int) == (p.size : Int) / 8 + 1) = true := by rw [beq_iff_eq]; omega
  have z3 : ((s.toList == t.toList) == (p.toList == q.toList)) = true := by
    by_cases h : p = q
    · have e := hcong h
      rw [h, e]
      simp
    · have e : s ≠ t := fun e => h (hinj e)
      have h1 : (p.toList == q.toList) = false := by rw [beq_eq_false_iff_ne]; exact fun k => h (toList_inj k)
      have h2 : (s.toList == t.toList) = false := by rw [beq_eq_false_iff_ne]; exact fun k => e (toList_inj k)
      rw [h1, h2]
      rfl
  clear hcong hinj hbsz
  go_wp2
  go_ret
  exact ⟨rfl, b6⟩
end Go.Proofs.Ytcbjplmfaanmeaa
