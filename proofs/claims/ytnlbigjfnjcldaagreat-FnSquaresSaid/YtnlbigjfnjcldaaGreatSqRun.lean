/-
  Runs over whole rows of numbers: an index into a value of an array's type, and == on values of arrays.
-/
import Derived.Test.YtnlbigjfnjcldaaGreatSqKit
import Derived.Laws.StructEq
namespace Go.Proofs.YtnlbigjfnjcldaaGreat
open Go.RowKit
set_option linter.unusedVariables false
set_option maxRecDepth 20000

/-- Is the first operation a load (a store)? As it stands: to be asked ahead of a law that unfolds. -/
theorem at_load {P : Program} {ops : Array Oper} {Q : Exit → Act → World → Prop} {rest : List Oper} {a : Act} {w : World} {o1 o3 o4 o5 o6} {ty : TypeId} {x : Operand}
    (h : wpList P ops Q (⟨o1, .load ty x, o3, o4, o5, o6⟩ :: rest) a w) : wpList P ops Q (⟨o1, .load ty x, o3, o4, o5, o6⟩ :: rest) a w := h
theorem at_store {P : Program} {ops : Array Oper} {Q : Exit → Act → World → Prop} {rest : List Oper} {a : Act} {w : World} {o1 o3 o4 o5 o6} {ty : TypeId} {x y : Operand}
    (h : wpList P ops Q (⟨o1, .store ty x y, o3, o4, o5, o6⟩ :: rest) a w) : wpList P ops Q (⟨o1, .store ty x y, o3, o4, o5, o6⟩ :: rest) a w := h

/-- A row of m numbers is loaded, from place o of a block on. -/
theorem load_arr {P : Program} {ops : Array Oper} {Q : Exit → Act → World → Prop} {rest : List Oper} {op : Oper} {a : Act} {w : World} (hgd : op.guard = none) (ty : TypeId) (x : Operand) (ho : op.op = .load ty x)
    (b o : Nat) (hx : a.eval x = .pointer (some ⟨b, o, none⟩)) (m : Nat) (r : Nat → Int) {d : TypeDesc} (hc : w.rangeAt b o (arr m r).toList)
    (hu : P.underlying ty = some d) (hd : d.isRow = true) (hi : (P.info? ty).map (·.size) = some m)
    (h : wpList P ops Q rest (a.put op.dst (.agg (arr m r))) w) : wpList P ops Q (op :: rest) a w :=
  wpList_load_mid hgd ty x ho b o hx (arr m r).toList d hc hu hd (by rw [hi]; simp [arr]) (by rw [Array.toArray_toList]; exact h)
/-- A row of m numbers is stored, from place o of a block on. -/
theorem store_arr {P : Program} {ops : Array Oper} {Q : Exit → Act → World → Prop} {rest : List Oper} {op : Oper} {a : Act} {w : World} (hgd : op.guard = none) (ty : TypeId) (x y : Operand) (ho : op.op = .store ty x y)
    (b o : Nat) (hx : a.eval x = .pointer (some ⟨b, o, none⟩)) (m : Nat) (r : Nat → Int) (hy : a.eval y = .agg (arr m r)) (ht : w.there b o m)
    (hi : (P.info? ty).map (·.size) = some m)
    (h : wpList P ops Q rest (a.put op.dst undef) (w.setCells b o (arr m r).toList)) : wpList P ops Q (op :: rest) a w :=
  wpList_store_mid hgd ty x y ho b o (arr m r) hx hy (by rw [arr_size]; exact ht) (by rw [arr_size]; exact hi) (arr_one _ _) h

/-- A number out of a row of numbers that is a value. -/
theorem index_num {P : Program} {w : World} {t e : TypeId} {n : Nat} (hu : P.underlying t = some (.array n e)) (he : (P.info? e).map (·.size) = some 1) (ha : (isAgg e).run P w = .ok false w) (f : Nat → Int) (k : Nat) (hk : k < n) :
    (Instr.index t (.agg (arr n f)) (.int .i64 (k : Int))).run P w = .ok (.int .i64 (f k)) w := by
  cases hq : P.info? e with
  | none => simp [hq] at he
  | some i =>
    have hs : i.size = 1 := by simpa [hq] using he
    have h0 : (0 : Int) ≤ (k : Int) ∧ (k : Int) < (n : Int) := ⟨by omega, by omega⟩
    simp [Instr.index, asIntOf, run_underlying hu, Sem.run_bind, Result.andThen, sizeOf, typeInfo, hq, hs, h0, part, ha, arr_get f hk, hk]
/-- A row of m numbers out of rows of numbers that are a value. -/
theorem index_row {P : Program} {w : World} {t e : TypeId} {n m N : Nat} (hu : P.underlying t = some (.array n e)) (he : (P.info? e).map (·.size) = some m) (ha : (isAgg e).run P w = .ok true w) (f : Nat → Int) (k : Nat) (hk : k < n) (hN : N = n * m) :
    (Instr.index t (.agg (arr N f)) (.int .i64 (k : Int))).run P w = .ok (.agg (arr m (fun i => f (k * m + i)))) w := by
  cases hq : P.info? e with
  | none => simp [hq] at he
  | some i =>
    have hs : i.size = m := by simpa [hq] using he
    have h0 : (0 : Int) ≤ (k : Int) ∧ (k : Int) < (n : Int) := ⟨by omega, by omega⟩
    have hb : k * m + m ≤ N := by
      subst hN
      calc k * m + m = (k + 1) * m := by rw [Nat.add_mul, Nat.one_mul]
        _ ≤ n * m := Nat.mul_le_mul_right m hk
    simp [Instr.index, asIntOf, run_underlying hu, Sem.run_bind, Result.andThen, sizeOf, typeInfo, hq, hs, h0, part, ha, arr_extract f hb, hk]

/-- == on arrays, element by element. -/
theorem run_equalIn_array {P : Program} (w : World) (d : Nat) (t e : TypeId) (n m : Nat) (xs ys : Array Value) (hu : P.underlying t = some (.array n e)) (he : (P.info? e).map (·.size) = some m) (b : Nat → Bool)
    (h : ∀ i, i < n → ∃ x y, (part e xs (i * m)).run P w = .ok x w ∧ (part e ys (i * m)).run P w = .ok y w ∧ (Op.equalIn d e x y).run P w = .ok (b i) w) :
    (Op.equalIn (d + 1) t (.agg xs) (.agg ys)).run P w = .ok ((List.range n).all b) w := by
  cases hq : P.info? e with
  | none => simp [hq] at he
  | some i =>
    have hs : i.size = m := by simpa [hq] using he
    simp only [Op.equalIn, Sem.run_bind, run_underlying hu, Result.andThen_ok]
    simp only [sizeOf, typeInfo, Sem.run_bind, Sem.run_pure, hq, hs, run_program, Result.andThen_ok]
    rw [Std.Legacy.Range.forIn_eq_forIn_range']
    simp only [Std.Legacy.Range.size, Nat.sub_zero, Nat.add_one_sub_one, Nat.div_one]
    have hm : ∀ i ∈ List.range' 0 n, i < n := fun i hi => by simpa using hi
    rw [show (List.range n).all b = (List.range' 0 n).all b by rw [List.range_eq_range']]
    generalize List.range' 0 n = l at *
    induction l with
    | nil => simp
    | cons j l ih =>
      obtain ⟨x, y, e1, e2, e3⟩ := h j (hm j (by simp))
      simp only [List.forIn_cons, Sem.run_bind, e1, e2, e3, Result.andThen_ok, Sem.run_ite, List.all_cons]
      cases hb : b j with
      | true =>
        simp only [Bool.not_true, Bool.false_eq_true, if_false, Sem.run_pure, Result.andThen_ok, Bool.true_and]
        exact ih (fun i hi => hm i (by simp [hi]))
      | false => simp [Result.andThen]
/-- == on two rows of n numbers. -/
theorem eq_nums {P : Program} (w : World) (d : Nat) (t e : TypeId) (n : Nat) (k : IntKind) (hu : P.underlying t = some (.array n e)) (he : (P.info? e).map (·.size) = some 1) (ha : (isAgg e).run P w = .ok false w) (hk : P.underlying e = some (.int k)) (f g : Nat → Int) :
    (Op.equalIn (d + 1 + 1) t (.agg (arr n f)) (.agg (arr n g))).run P w = .ok ((List.range n).all (fun i => f i == g i)) w := by
  refine run_equalIn_array w (d + 1) t e n 1 _ _ hu he _ (fun i hi => ⟨.int .i64 (f i), .int .i64 (g i), ?_, ?_, run_equalIn_int w d e .i64 k _ _ hk⟩)
  · simp [part, Sem.run_bind, ha, arr_get f hi]
  · simp [part, Sem.run_bind, ha, arr_get g hi]
/-- == on two arrays of n rows of m numbers. -/
theorem eq_rows {P : Program} (w : World) (d : Nat) (T t e : TypeId) (n m N : Nat) (k : IntKind) (hT : P.underlying T = some (.array n t)) (ht : (P.info? t).map (·.size) = some m) (hA : (isAgg t).run P w = .ok true w)
    (hu : P.underlying t = some (.array m e)) (he : (P.info? e).map (·.size) = some 1) (ha : (isAgg e).run P w = .ok false w) (hk : P.underlying e = some (.int k)) (hN : N = n * m) (f g : Nat → Int) :
    (Op.equalIn (d + 1 + 1 + 1) T (.agg (arr N f)) (.agg (arr N g))).run P w = .ok ((List.range n).all (fun i => (List.range m).all (fun j => f (i * m + j) == g (i * m + j)))) w := by
  have hb : ∀ i, i < n → i * m + m ≤ N := fun i hi => by
    subst hN
    calc i * m + m = (i + 1) * m := by rw [Nat.add_mul, Nat.one_mul]
      _ ≤ n * m := Nat.mul_le_mul_right m hi
  cases hq : P.info? t with
  | none => simp [hq] at ht
  | some z =>
    have hs : z.size = m := by simpa [hq] using ht
    refine run_equalIn_array w (d + 1 + 1) T t n m _ _ hT (by rw [hq]; simpa using hs) _ (fun i hi => ⟨_, _, ?_, ?_, eq_nums w d t e m k hu he ha hk (fun j => f (i * m + j)) (fun j => g (i * m + j))⟩)
    · simp [part, Sem.run_bind, hA, sizeOf, typeInfo, hq, hs, arr_extract f (hb i hi)]
    · simp [part, Sem.run_bind, hA, sizeOf, typeInfo, hq, hs, arr_extract g (hb i hi)]
theorem all_eq_iff {n : Nat} {f g : Nat → Int} : (List.range n).all (fun i => f i == g i) = true ↔ ∀ i, i < n → f i = g i := by simp
theorem all_rows_iff {n m : Nat} {f g : Nat → Int} : (List.range n).all (fun i => (List.range m).all (fun j => f (i * m + j) == g (i * m + j))) = true ↔ ∀ i, i < n → ∀ j, j < m → f (i * m + j) = g (i * m + j) := by simp
end Go.Proofs.YtnlbigjfnjcldaaGreat
