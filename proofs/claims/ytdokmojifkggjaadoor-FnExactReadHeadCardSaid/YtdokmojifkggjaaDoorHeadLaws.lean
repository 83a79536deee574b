/-
  Both answers, the program's and the model's, of the functions on heads.
-/
import Derived.Test.YtdokmojifkggjaaDoorHeadBack
namespace Go.Proofs.YtdokmojifkggjaaDoor
open Go.RowKit
set_option linter.unusedVariables false
set_option maxRecDepth 20000

theorem fnExactHeadOk_both (l b : Int) (xs ys : List Int) (q : Int) (g x c : Bool) (t f k : Int) : ∃ r : Bool,
    Hid (∀ w' e1 e2 d1 d2, SetIn w' e1 e2 xs ys → Calls Tryd.prog 16 #[.agg #[.int .i64 l, .int .i64 b, .slice e1 xs.length d1, .slice e2 ys.length d2], .agg #[.int .i64 q, .bool g, .bool x, .bool c], .agg #[.int .i64 t, .int .i64 f, .int .i64 k]] w' fun e w'' => e = .returned (.bool r) ∧ Below w'.heap.size w' w'') ∧
    Hid (∀ w' e1 e2 d1 d2, SetIn w' e1 e2 xs ys → Calls Tryd.prog 14 #[.agg #[.int .i64 l, .int .i64 b, .slice e1 xs.length d1, .slice e2 ys.length d2], .agg #[.int .i64 q, .bool g, .bool x, .bool c], .agg #[.int .i64 t, .int .i64 f, .int .i64 k]] w' fun e w'' => e = .returned (.bool r) ∧ Below w'.heap.size w' w'') :=
  ⟨_, fun w' e1 e2 d1 d2 h => specHeadOk l b e1 e2 d1 d2 xs ys q g x c t f k w' h, fun w' e1 e2 d1 d2 h => implHeadOk l b e1 e2 d1 d2 xs ys q g x c t f k w' h⟩

theorem fnExactHeadRow_both (l b : Int) (xs ys : List Int) (q : Int) (g x c : Bool) (t f k : Int) : ∃ (r : ByteArray) (y : Bool),
    Hid (∀ w' e1 e2 d1 d2, SetIn w' e1 e2 xs ys → Calls Tryd.prog 21 #[.agg #[.int .i64 l, .int .i64 b, .slice e1 xs.length d1, .slice e2 ys.length d2], .agg #[.int .i64 q, .bool g, .bool x, .bool c], .agg #[.int .i64 t, .int .i64 f, .int .i64 k]] w' fun e w'' => e = .returned (.tuple #[.string r, .bool y]) ∧ Below w'.heap.size w' w'') ∧
    Hid (∀ w' e1 e2 d1 d2, SetIn w' e1 e2 xs ys → Calls Tryd.prog 10 #[.agg #[.int .i64 l, .int .i64 b, .slice e1 xs.length d1, .slice e2 ys.length d2], .agg #[.int .i64 q, .bool g, .bool x, .bool c], .agg #[.int .i64 t, .int .i64 f, .int .i64 k]] w' fun e w'' => e = .returned (.tuple #[.string r, .bool y]) ∧ Below w'.heap.size w' w'') := by
  cases hh : headB l b xs ys q g x t f k with
  | false => exact ⟨_, _, fun w' e1 e2 d1 d2 h => specHeadRow_no l b e1 e2 d1 d2 xs ys q g x c t f k w' h hh, fun w' e1 e2 d1 d2 h => implHeadRow_no l b e1 e2 d1 d2 xs ys q g x c t f k w' h hh⟩
  | true => exact ⟨_, _, fun w' e1 e2 d1 d2 h => specHeadRow l b e1 e2 d1 d2 xs ys q g x c t f k w' h hh, fun w' e1 e2 d1 d2 h => implHeadRow l b e1 e2 d1 d2 xs ys q g x c t f k w' h hh⟩

theorem fnExactReadHead_both (l b : Int) (xs ys : List Int) (q : Int) (g x c : Bool) (s : ByteArray) (ws : s.size ≤ maxLen) : ∃ (t f k n : Int) (y : Bool),
    Hid (∀ w' e1 e2 d1 d2, SetIn w' e1 e2 xs ys → Calls Tryd.prog 22 #[.agg #[.int .i64 l, .int .i64 b, .slice e1 xs.length d1, .slice e2 ys.length d2], .agg #[.int .i64 q, .bool g, .bool x, .bool c], .string s] w' fun e w'' => e = .returned (.tuple #[.agg #[.int .i64 t, .int .i64 f, .int .i64 k], .int .i64 n, .bool y]) ∧ Below w'.heap.size w' w'') ∧
    Hid (∀ w' e1 e2 d1 d2, SetIn w' e1 e2 xs ys → Calls Tryd.prog 13 #[.agg #[.int .i64 l, .int .i64 b, .slice e1 xs.length d1, .slice e2 ys.length d2], .agg #[.int .i64 q, .bool g, .bool x, .bool c], .string s] w' fun e w'' => e = .returned (.tuple #[.agg #[.int .i64 t, .int .i64 f, .int .i64 k], .int .i64 n, .bool y]) ∧ Below w'.heap.size w' w'') := by
  cases hr : rowOkB s with
  | false => exact ⟨0, 0, 0, 0, false, fun w' e1 e2 d1 d2 h => specReadHead_row l b e1 e2 d1 d2 xs ys q g x c s w' h ws hr, fun w' e1 e2 d1 d2 h => implReadHead_row l b _ _ q g x c s w' ws hr⟩
  | true =>
  -- what impl answers where the set or the par is not right
  have bad : ∀ n1 n2 k, (seqB l b xs ys = false ∨ parB q g x = false) → headB l b xs ys q g x n1 n2 k = false := fun n1 n2 k h => h.elim headB_noSeq headB_noPar
  obtain ⟨n1, _, e1, o1, I1, S1, _, _, P1, _⟩ := cnt_letters s 0 hr (Nat.zero_le _)
  -- the answers of impl, whatever the set: zero, or a head that HeadOk is asked for
  have nil : ∀ (CA : ∀ v1 v2, Hid (∀ w', Calls Tryd.prog 37 #[.agg #[.int .i64 l, .int .i64 b, v1, v2], .agg #[.int .i64 q, .bool g, .bool x, .bool c], .string s] w' fun e w'' => e = .returned (.tuple #[.agg #[.int .i64 0, .int .i64 0, .int .i64 0], .int .i64 0, .bool false]) ∧ Below w'.heap.size w' w'')),
      Hid (∀ w' e1 e2 d1 d2, SetIn w' e1 e2 xs ys → Calls Tryd.prog 13 #[.agg #[.int .i64 l, .int .i64 b, .slice e1 xs.length d1, .slice e2 ys.length d2], .agg #[.int .i64 q, .bool g, .bool x, .bool c], .string s] w' fun e w'' => e = .returned (.tuple #[.agg #[.int .i64 0, .int .i64 0, .int .i64 0], .int .i64 0, .bool false]) ∧ Below w'.heap.size w' w'') :=
    fun CA w' e1 e2 d1 d2 h => implReadHead_none l b _ _ q g x c s w' hr (CA _ _)
  have spb : (seqB l b xs ys = false ∨ parB q g x = false) → Hid (∀ w' e1 e2 d1 d2, SetIn w' e1 e2 xs ys → Calls Tryd.prog 22 #[.agg #[.int .i64 l, .int .i64 b, .slice e1 xs.length d1, .slice e2 ys.length d2], .agg #[.int .i64 q, .bool g, .bool x, .bool c], .string s] w' fun e w'' => e = .returned (.tuple #[.agg #[.int .i64 0, .int .i64 0, .int .i64 0], .int .i64 0, .bool false]) ∧ Below w'.heap.size w' w'') := fun hsp w' e1 e2 d1 d2 h => by
    cases hq : seqB l b xs ys with
    | false => exact specReadHead_seq l b e1 e2 d1 d2 xs ys q g x c s w' h ws hr hq
    | true =>
      have hp : parB q g x = false := hsp.resolve_left (by simp [hq])
      exact specReadHead_par l b e1 e2 d1 d2 xs ys q g x c s w' h ws hr hq hp
  by_cases hsp : seqB l b xs ys = true ∧ parB q g x = true
  case neg =>
    have hsp' : seqB l b xs ys = false ∨ parB q g x = false := by
      cases hq : seqB l b xs ys
      · exact .inl rfl
      · refine .inr ?_
        cases hp : parB q g x
        · rfl
        · exact absurd ⟨hq, hp⟩ hsp
    refine ⟨0, 0, 0, 0, false, spb hsp', ?_⟩
    cases o1 with
    | false => exact nil (fun v1 v2 w' => implHeadAt_no1 l b v1 v2 q g x c s w' n1 e1 I1)
    | true =>
      obtain ⟨p1, rfl, hp1, _⟩ := P1 rfl
      obtain ⟨n2, e2, o2, I2, _, P2, _⟩ := fix_letters s p1 b hr hp1
      cases o2 with
      | false => exact nil (fun v1 v2 w' => implHeadAt_no2 l b v1 v2 q g x c s w' n1 _ I1 n2 e2 I2)
      | true =>
        obtain ⟨p2, rfl, hp2⟩ := P2 rfl
        obtain ⟨_, n3, e3, o3, _, _, I3, _, _, _⟩ := cnt_letters s p2 hr hp2
        cases o3 with
        | false => exact nil (fun v1 v2 w' => implHeadAt_no3 l b v1 v2 q g x c s w' n1 _ I1 n2 _ I2 n3 e3 I3)
        | true =>
          intro w' e1 e2 d1 d2 h
          have := implReadHead_any l b e1 e2 d1 d2 xs ys q g x c s w' h hr n1 n2 _ e3 (fun w'' => implHeadAt_yes l b _ _ q g x c s w'' n1 _ I1 n2 _ I2 n3 e3 I3 _ rfl)
          rwa [bad _ _ _ hsp'] at this
  obtain ⟨hq, hp⟩ := hsp
  obtain ⟨_, _, y0, y1⟩ := seqB_true hq
  cases o1 with
  | false => exact ⟨0, 0, 0, 0, false, fun w' e1' e2 d1 d2 h => specReadHead_no1 l b e1' e2 d1 d2 xs ys q g x c s w' h ws hr hq hp n1 e1 S1, nil (fun v1 v2 w' => implHeadAt_no1 l b v1 v2 q g x c s w' n1 e1 I1)⟩
  | true =>
  obtain ⟨p1, rfl, hp1, _⟩ := P1 rfl
  obtain ⟨n2, e2, o2, I2, S2, P2, _⟩ := fix_letters s p1 b hr hp1
  have S2' := S2 y0 y1
  cases o2 with
  | false => exact ⟨0, 0, 0, 0, false, fun w' e1' e2' d1 d2 h => specReadHead_no2 l b e1' e2' d1 d2 xs ys q g x c s w' h ws hr hq hp n1 _ S1 n2 e2 S2', nil (fun v1 v2 w' => implHeadAt_no2 l b v1 v2 q g x c s w' n1 _ I1 n2 e2 I2)⟩
  | true =>
  obtain ⟨p2, rfl, hp2⟩ := P2 rfl
  obtain ⟨_, n3, e3, o3, _, _, I3, S3, _, _⟩ := cnt_letters s p2 hr hp2
  cases o3 with
  | false => exact ⟨0, 0, 0, 0, false, fun w' e1' e2' d1 d2 h => specReadHead_no3 l b e1' e2' d1 d2 xs ys q g x c s w' h ws hr hq hp n1 _ S1 n2 _ S2' n3 e3 S3 _ rfl, nil (fun v1 v2 w' => implHeadAt_no3 l b v1 v2 q g x c s w' n1 _ I1 n2 _ I2 n3 e3 I3)⟩
  | true =>
  have ci := fun w' e1' e2' d1 d2 h => implReadHead_any l b e1' e2' d1 d2 xs ys q g x c s w' h hr n1 n2 _ e3 (fun w'' => implHeadAt_yes l b _ _ q g x c s w'' n1 _ I1 n2 _ I2 n3 e3 I3 _ rfl)
  have cs := fun w' e1' e2' d1 d2 h => specReadHead_any l b e1' e2' d1 d2 xs ys q g x c s w' h ws hr hq hp n1 _ S1 n2 _ S2' n3 e3 S3 _ rfl
  cases hh : headB l b xs ys q g x n1 n2 (wrap64 (q + n3)) with
  | false =>
    rw [hh] at ci cs
    exact ⟨0, 0, 0, 0, false, cs, ci⟩
  | true =>
    rw [hh] at ci cs
    exact ⟨n1, n2, _, e3, true, cs, ci⟩
end Go.Proofs.YtdokmojifkggjaaDoor
