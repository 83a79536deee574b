/-
  The walk of impl.headAtFirst: the numbers of a head at a row's beginning, whatever they are.
-/
import Derived.Test.YtdokmojifkggjaaDoorHeadRows
import Derived.Test.YtdokmojifkggjaaDoorCountReads
import Derived.Test.YtdokmojifkggjaaDoorReadOne
namespace Go.Proofs.YtdokmojifkggjaaDoor
open Go.RowKit
set_option linter.unusedVariables false
set_option maxRecDepth 20000

/-- What a reader of one number answers. -/
abbrev Ans (f : Nat) (args : Array Value) (n e : Int) (ok : Bool) : Prop := ∀ w : World, Calls Tryd.prog f args w fun r w' => r = .returned (.tuple #[.int .i64 n, .int .i64 e, .bool ok]) ∧ w' = w

/-- The number that is counted at a place, of both, as it is and with a sign. -/
theorem cnt_letters (s : ByteArray) (a : Nat) (hr : rowOkB s = true) (ha : a ≤ s.size) : ∃ (n d e : Int) (ok : Bool),
    Hid (Ans 64 #[.int .i64 0, .string s, .int .i64 a] n e ok) ∧ Hid (Ans 52 #[.string s, .int .i64 a] n e ok) ∧
    Hid (Ans 64 #[.int .i64 1, .string s, .int .i64 a] d e ok) ∧ Hid (Ans 54 #[.string s, .int .i64 a] d e ok) ∧
    (ok = true → ∃ (p : Nat), e = (p : Int) ∧ p ≤ s.size ∧ -500000 ≤ d ∧ d ≤ 500000) ∧ (∀ z m, Counted s a z m → n = m ∧ d = seO m ∧ e = (a : Int) + (z : Int) + ((z : Int) + 1) ∧ ok = true) := by
  by_cases h : ∃ z m, Counted s a z m
  · obtain ⟨z, m, hc⟩ := h
    have hl := hc.low hr
    have ht := hc.top
    have hf := hc.fits
    refine ⟨m, seO m, _, true, fun w => implReadAt 0 (fun u => u) s a z m w opens_ue hr hc, fun w => specReadAt s a z m w hr hc, fun w => implReadAt 1 seO s a z m w opens_se hr hc, fun w => specSeAt s a z m w hr hc, fun _ => ⟨a + z + (z + 1), by omega, hf, ?_⟩, fun y k hy => ?_⟩
    · unfold seO; split <;> omega
    · obtain ⟨rfl, rfl⟩ := hc.uniq hy
      exact ⟨rfl, rfl, rfl, rfl⟩
  · have hn : CountedNot s a := fun z m hc => h ⟨z, m, hc⟩
    exact ⟨0, 0, 0, false, fun w => implReadAtNo 0 s a w opens_ue_no hr (by omega) hn, fun w => specReadAtNo s a w hr (by omega) hn, fun w => implReadAtNo 1 s a w opens_se_no hr (by omega) hn, fun w => specSeAtNo s a w hr (by omega) hn, by simp, fun z m hc => absurd hc (hn z m)⟩

/-- The number of a width that stands at a place, of both. -/
theorem fix_letters (s : ByteArray) (a : Nat) (b : Int) (hr : rowOkB s = true) (ha : a ≤ s.size) : ∃ (n e : Int) (ok : Bool),
    Hid (Ans 65 #[.string s, .int .i64 a, .int .i64 b] n e ok) ∧ (3 ≤ b → b ≤ 8 → Hid (Ans 53 #[.string s, .int .i64 a, .int .i64 b] n e ok)) ∧
    (ok = true → ∃ (p : Nat), e = (p : Int) ∧ p ≤ s.size) ∧ (∀ m : Nat, b = m → m ≤ 30 → a + m ≤ s.size → n = readN s a m ∧ e = (a : Int) + (m : Int) ∧ ok = true) := by
  have h4 := (rowOkB_true s hr).1
  by_cases h : 0 ≤ b ∧ b ≤ 30 ∧ (a : Int) + b ≤ (s.size : Int)
  · obtain ⟨m, rfl⟩ : ∃ m : Nat, b = m := ⟨b.toNat, by omega⟩
    refine ⟨readN s a m, _, true, fun w => implAt s a m w hr (by omega) (by omega), fun _ _ w => specRead s a m w hr (by omega) (by omega), fun _ => ⟨a + m, by omega, by omega⟩, fun k hk _ _ => ?_⟩
    obtain rfl : m = k := by omega
    exact ⟨rfl, rfl, rfl⟩
  · refine ⟨0, 0, false, fun w => implAtNo s a b w (by omega) (by omega) (by omega) (by omega), fun y0 y1 w => ?_, by simp, fun m hm h1 h2 => by omega⟩
    obtain ⟨m, rfl⟩ : ∃ m : Nat, b = m := ⟨b.toNat, by omega⟩
    exact specRead_no s a m w (by omega) (by omega) (by omega) (by omega)

/-- A head and what follows, or nothing. -/
def hdV (t f k e : Int) : Bool → Value
  | true => .tuple #[.agg #[.int .i64 t, .int .i64 f, .int .i64 k], .int .i64 e, .bool true]
  | false => .tuple #[.agg #[.int .i64 0, .int .i64 0, .int .i64 0], .int .i64 0, .bool false]

set_option maxHeartbeats 1600000 in
theorem implHeadAt_no1 (l b : Int) (v1 v2 : Value) (q : Int) (g x c : Bool) (s : ByteArray) (w : World) (n1 e1 : Int) (C1 : Hid (Ans 64 #[.int .i64 0, .string s, .int .i64 0] n1 e1 false)) :
    Calls Tryd.prog 37 #[.agg #[.int .i64 l, .int .i64 b, v1, v2], .agg #[.int .i64 q, .bool g, .bool x, .bool c], .string s] w fun e w' => e = .returned (hdV 0 0 0 0 false) ∧ Below w.heap.size w w' := by
  go_enter Tryd.func37, Tryd.ntmps37
  go_wp2_with fail
  refine (C1.out _).mono ?_
  rintro e w1 ⟨rfl, hw⟩
  subst w1
  go_wp2
  (try simp only [Exit.inBlock, Exit.then])
  refine bodyPost_ret (results_cell_two rfl _ _ (w.heap.size + 1 + 1) 30 _ (0, 0) _ rfl (Blk.new' _ _ (by simp)) Tryd.underlying30 rfl (by kernel_rfl)) rfl ?_
  exact ⟨rfl, by go_grown⟩

set_option maxHeartbeats 1600000 in
theorem implHeadAt_no2 (l b : Int) (v1 v2 : Value) (q : Int) (g x c : Bool) (s : ByteArray) (w : World) (n1 e1 : Int) (C1 : Hid (Ans 64 #[.int .i64 0, .string s, .int .i64 0] n1 e1 true)) (n2 e2 : Int) (C2 : Hid (Ans 65 #[.string s, .int .i64 e1, .int .i64 b] n2 e2 false)) :
    Calls Tryd.prog 37 #[.agg #[.int .i64 l, .int .i64 b, v1, v2], .agg #[.int .i64 q, .bool g, .bool x, .bool c], .string s] w fun e w' => e = .returned (hdV 0 0 0 0 false) ∧ Below w.heap.size w w' := by
  go_enter Tryd.func37, Tryd.ntmps37
  go_wp2_with fail
  refine (C1.out _).mono ?_
  rintro e w1 ⟨rfl, hw⟩
  subst w1
  go_wp2_with fail
  refine (C2.out _).mono ?_
  rintro e w1 ⟨rfl, hw⟩
  subst w1
  go_wp2
  (try simp only [Exit.inBlock, Exit.then])
  refine bodyPost_ret (results_cell_two rfl _ _ (w.heap.size + 1 + 1) 30 _ (0, 0) _ rfl (Blk.new' _ _ (by simp)) Tryd.underlying30 rfl (by kernel_rfl)) rfl ?_
  exact ⟨rfl, by go_grown⟩

set_option maxHeartbeats 1600000 in
theorem implHeadAt_no3 (l b : Int) (v1 v2 : Value) (q : Int) (g x c : Bool) (s : ByteArray) (w : World) (n1 e1 : Int) (C1 : Hid (Ans 64 #[.int .i64 0, .string s, .int .i64 0] n1 e1 true)) (n2 e2 : Int) (C2 : Hid (Ans 65 #[.string s, .int .i64 e1, .int .i64 b] n2 e2 true)) (n3 e3 : Int) (C3 : Hid (Ans 64 #[.int .i64 1, .string s, .int .i64 e2] n3 e3 false)) :
    Calls Tryd.prog 37 #[.agg #[.int .i64 l, .int .i64 b, v1, v2], .agg #[.int .i64 q, .bool g, .bool x, .bool c], .string s] w fun e w' => e = .returned (hdV 0 0 0 0 false) ∧ Below w.heap.size w w' := by
  go_enter Tryd.func37, Tryd.ntmps37
  go_wp2_with fail
  refine (C1.out _).mono ?_
  rintro e w1 ⟨rfl, hw⟩
  subst w1
  go_wp2_with fail
  refine (C2.out _).mono ?_
  rintro e w1 ⟨rfl, hw⟩
  subst w1
  go_wp2_with fail
  refine (C3.out _).mono ?_
  rintro e w1 ⟨rfl, hw⟩
  subst w1
  go_wp2
  (try simp only [Exit.inBlock, Exit.then])
  refine bodyPost_ret (results_cell_two rfl _ _ (w.heap.size + 1 + 1) 30 _ (0, 0) _ rfl (Blk.new' _ _ (by simp)) Tryd.underlying30 rfl (by kernel_rfl)) rfl ?_
  exact ⟨rfl, by go_grown⟩

set_option maxHeartbeats 1600000 in
theorem implHeadAt_yes (l b : Int) (v1 v2 : Value) (q : Int) (g x c : Bool) (s : ByteArray) (w : World) (n1 e1 : Int) (C1 : Hid (Ans 64 #[.int .i64 0, .string s, .int .i64 0] n1 e1 true)) (n2 e2 : Int) (C2 : Hid (Ans 65 #[.string s, .int .i64 e1, .int .i64 b] n2 e2 true)) (n3 e3 : Int) (C3 : Hid (Ans 64 #[.int .i64 1, .string s, .int .i64 e2] n3 e3 true)) (k : Int) (hk : wrap64 (q + n3) = k) :
    Calls Tryd.prog 37 #[.agg #[.int .i64 l, .int .i64 b, v1, v2], .agg #[.int .i64 q, .bool g, .bool x, .bool c], .string s] w fun e w' => e = .returned (hdV n1 n2 k e3 true) ∧ Below w.heap.size w w' := by
  go_enter Tryd.func37, Tryd.ntmps37
  go_wp2_with fail
  refine (C1.out _).mono ?_
  rintro e w1 ⟨rfl, hw⟩
  subst w1
  go_wp2_with fail
  refine (C2.out _).mono ?_
  rintro e w1 ⟨rfl, hw⟩
  subst w1
  go_wp2_with fail
  refine (C3.out _).mono ?_
  rintro e w1 ⟨rfl, hw⟩
  subst w1
  go_wp2
  (try simp only [Exit.inBlock, Exit.then])
  refine bodyPost_ret (results_cell_two rfl _ _ (w.heap.size + 1 + 1) 30 _ (0, 0) _ rfl (Blk.new' _ _ (by simp)) Tryd.underlying30 rfl (by kernel_rfl)) rfl ?_
  exact ⟨rfl, by go_grown⟩

end Go.Proofs.YtdokmojifkggjaaDoor
