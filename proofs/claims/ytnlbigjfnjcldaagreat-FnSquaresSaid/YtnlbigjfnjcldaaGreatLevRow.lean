/-
  impl.LevelsRow, spec.LevelsRow: the row of levels, in pieces that have a row each.
-/
import Derived.Test.YtnlbigjfnjcldaaGreatChunkRange
import Derived.Test.YtnlbigjfnjcldaaGreatCondKit
import Derived.Test.YtnlbigjfnjcldaaGreatLeftWay
import Derived.Test.YtnlbigjfnjcldaaGreatRunTops
import Derived.Shelf.Strings.BuilderK
import Derived.RangeFuncCalls
namespace Go.Proofs.YtnlbigjfnjcldaaGreat
open Go.RowKit
set_option linter.unusedVariables false
set_option maxRecDepth 20000
attribute [local go_sem] Oper.semAt_some

/-- The k-th piece of a list. -/
def pieceL (sz : Nat) (xs : List Int) (k : Nat) : List Int := listF sz (fun i => xs.getD (k * sz + i) 0)
/-- The rows of the first pieces. -/
def accS (sz : Nat) (xs : List Int) : Nat → ByteArray
  | 0 => ⟨#[]⟩
  | k + 1 => accS sz xs k ++ rnS (pieceL sz xs k)
theorem ints_piece {w : World} {g o sz k : Nat} {xs : List Int} (h : Ints w (some ⟨g, o, none⟩) xs) (hl : xs.length = 64) (hk : k * sz + sz ≤ 64) : Ints w (some ⟨g, o + k * sz, none⟩) (pieceL sz xs k) := by
  rcases h with h | ⟨b, off, e, hb, hc⟩
  · rw [h] at hl; cases hl
  · cases e
    refine .inr ⟨g, o + k * sz, rfl, hb, fun i hi => ?_⟩
    unfold pieceL at hi ⊢
    rw [listF_length] at hi
    rw [listF_get _ hi, Nat.add_assoc]
    exact hc (k * sz + i) (by omega)
theorem accS_le (sz : Nat) (xs : List Int) : ∀ k, (accS sz xs k).size ≤ 5200 * k
  | 0 => Nat.le_refl _
  | k + 1 => by
    have := accS_le sz xs k
    have := rnS_le (pieceL sz xs k)
    unfold accS
    rw [ByteArray.size_append]
    omega

/-- A builder stays one while a block that holds no cells is turned. -/
theorem builderF_own {T e : TypeId} {B b : Nat} {bs : List Value} {W W' : World} {row : Option Nat} (h : Lib.IsBuilderF T e B b bs W) (hg : W.grownBy W' row) (hr : ∀ r, row = some r → ∃ o : Obj, W.heap[r]? = some o ∧ o.isCells = false) : Lib.IsBuilderF T e B b bs W' := by
  have key : ∀ (i : Nat) (c : Array Value) (t : TypeId) (fz : Nat × Nat), W.heap[i]? = some (.cells c t fz) → W'.heap[i]? = some (.cells c t fz) := fun i c t fz hi =>
    (hg.block i (Array.getElem?_eq_some_iff.1 hi).1 (fun e => by
      obtain ⟨ob, h1, h2⟩ := hr i e.symm
      rw [hi] at h1
      cases h1
      cases h2)).trans hi
  have one : ∀ p, Lib.BuilderAtF T e B b p bs W → Lib.BuilderAtF T e B b p bs W' := fun p ⟨hB, v, hb, hown, hne⟩ => by
    refine ⟨hB, v, key _ _ _ _ hb, ⟨hown.1, ?_⟩, hne⟩
    rcases hown.2 with hn | ⟨g, cap, cur, fz, hv, hbg, hgc, rest⟩
    · exact .inl hn
    · exact .inr ⟨g, cap, cur, fz, hv, hbg, key _ _ _ _ hgc, rest⟩
  exact h.elim (fun x => .inl (one _ x)) (fun x => .inr (one _ x))
theorem builderF_le {T e : TypeId} {B b : Nat} {bs : List Value} {W : World} (h : Lib.IsBuilderF T e B b bs W) : B ≤ W.heap.size := by
  have one : ∀ p, Lib.BuilderAtF T e B b p bs W → B ≤ W.heap.size := fun p ⟨hB, v, hb, _⟩ => by
    have := (Array.getElem?_eq_some_iff.1 hb).1
    omega
  exact h.elim (one _) (one _)
theorem builderF_below {T e : TypeId} {B b : Nat} {bs : List Value} {W W' : World} (h : Lib.IsBuilderF T e B b bs W) (hb : Below W.heap.size W W') : Lib.IsBuilderF T e B b bs W' := by
  have key : ∀ (i : Nat) (c : Array Value) (t : TypeId) (fz : Nat × Nat), W.heap[i]? = some (.cells c t fz) → W'.heap[i]? = some (.cells c t fz) := fun i c t fz hi =>
    (hb.block i (Array.getElem?_eq_some_iff.1 hi).1).trans hi
  have one : ∀ p, Lib.BuilderAtF T e B b p bs W → Lib.BuilderAtF T e B b p bs W' := fun p ⟨hB, v, hb, hown, hne⟩ => by
    refine ⟨hB, v, key _ _ _ _ hb, ⟨hown.1, ?_⟩, hne⟩
    rcases hown.2 with hn | ⟨g, cap, cur, fz, hv, hbg, hgc, rest⟩
    · exact .inl hn
    · exact .inr ⟨g, cap, cur, fz, hv, hbg, key _ _ _ _ hgc, rest⟩
  exact h.elim (fun x => .inl (one _ x)) (fun x => .inr (one _ x))

theorem chunk_any (g o cap sz : Nat) (hsz : 1 ≤ sz ∧ sz ≤ 64) (w : World) :
    Calls Tryz.prog 125 #[.slice (some ⟨g, o, none⟩) 64 cap, .int .i64 (sz : Int)] w fun e w' => e = .returned (.func (.func 134) #[] #[.pointer (some ⟨w.heap.size, 0, none⟩), .pointer (some ⟨w.heap.size + 1, 0, none⟩)]) ∧
      Boxed w' w.heap.size 32 (.slice (some ⟨g, o, none⟩) 64 cap) ∧ Boxed w' (w.heap.size + 1) 3 (.int .i64 (sz : Int)) ∧ w'.heap.size = w.heap.size + 2 ∧ Below w.heap.size w w' := by
  have b1 := (Boxed.new w 32 (.slice (some ⟨g, o, none⟩) 64 cap)).alloc (.cells #[.int .i64 (sz : Int)] 3)
  have b2 := Boxed.new (w.alloc (.cells #[.slice (some ⟨g, o, none⟩) 64 cap] 32)) 3 (.int .i64 (sz : Int))
  rw [World.size_alloc] at b2
  have hb : Below w.heap.size w ((w.alloc (.cells #[.slice (some ⟨g, o, none⟩) 64 cap] 32)).alloc (.cells #[.int .i64 (sz : Int)] 3)) := ((Below.refl _ w).alloc (Nat.le_refl _) _).alloc (by simp) _
  have hz : ((w.alloc (.cells #[.slice (some ⟨g, o, none⟩) 64 cap] 32)).alloc (.cells #[.int .i64 (sz : Int)] 3)).heap.size = w.heap.size + 2 := by simp
  have s0 : ¬ (sz : Int) < 1 := by omega
  have c2 := b2.cell
  go_enter Tryz.func125, Tryz.ntmps125
  go_wp2
  go_ret
  exact ⟨rfl, b1, b2, hz, hb⟩

theorem write_k (B b : Nat) (bs : List Value) (s : ByteArray) (w : World) (h : Lib.IsBuilderF 114 5 B b bs w) (hlen : bs.length + s.size ≤ 140737488355328) (hBw : B ≤ w.heap.size) :
    Calls Tryz.prog 83 #[.pointer (some ⟨b, 0, none⟩), .string s] w fun e w' => e = .returned (.tuple #[.int .i64 s.size, .nilIface]) ∧ Lib.BuilderAtF 114 5 B b (.pointer (some ⟨b, 0, none⟩)) (bs ++ Lib.strCells s) w' ∧ Below B w w' ∧ Lib.OthersKept 5 (some b) w w' :=
  Go.Proofs.Any.Builder_WriteString_k Tryz.lays166 Tryz.Builder_Extra_166 B b bs s w h hlen hBw
theorem string_k (B b : Nat) (s : ByteArray) (w : World) (h : Lib.IsBuilderF 114 5 B b (tcells s) w) (hBw : B ≤ w.heap.size) :
    Calls Tryz.prog 85 #[.pointer (some ⟨b, 0, none⟩)] w fun e w' => e = .returned (.string s) ∧ Below B w w' ∧ Lib.OthersKept 5 (some b) w w' :=
  (Go.Proofs.Any.Builder_String_any_k Tryz.lays169 Tryz.Builder_Extra_169 B b s.data.toList w h hBw).mono fun e w' h => ⟨h.1, h.2.2⟩

/-- What LevelsRow says of a list and a condition. -/
def lrB (q : Int) (g x : Bool) (xs : List Int) : Bool := parB q g x && sqB 5000 xs
def lrS (q : Int) (g x : Bool) (xs : List Int) : ByteArray := if lrB q g x xs = true then (if (g || x) = true then accS 64 xs 1 else accS 16 xs 4) else ⟨#[]⟩

set_option maxHeartbeats 3200000 in
theorem levelsRow_yes (gb o cap : Nat) (hcap : 64 ≤ cap) (xs : List Int) (k : Bool) (q : Int) (g x : Bool) (w : World) (sz m : Nat) (hs : PieceOk sz m) (hw : ∃ u v, wayV g x = .agg #[u, v, .int .i64 (sz : Int)]) (h : Ints w (some ⟨gb, o, none⟩) xs) (hy1 : parB q g x = true) (hy2 : sqB 5000 xs = true) :
    Calls Tryz.prog 122 #[.slice (some ⟨gb, o, none⟩) 64 cap, conV k q g x] w fun e w' => e = .returned (.tuple #[.string (accS sz xs m), .bool true]) ∧ Below w.heap.size w w' := by
  obtain ⟨hl, hin⟩ := sqB_iff.1 hy2
  obtain ⟨lv, bk, hw⟩ := hw
  have hs1 : 1 ≤ sz ∧ sz ≤ 64 := by rcases hs with ⟨rfl, rfl⟩ | ⟨rfl, rfl⟩ <;> decide
  have HM : Hid (∀ j, j < m → j * sz + sz ≤ 64) := fun j hj => by rcases hs with ⟨rfl, rfl⟩ | ⟨rfl, rfl⟩ <;> omega
  have hm4 : m ≤ 4 := by rcases hs with ⟨rfl, rfl⟩ | ⟨rfl, rfl⟩ <;> decide
  have B0 := Blk.new w #[.bool k, .int .i64 q, .bool g, .bool x] 26
  have hb0 := (Below.refl w.heap.size w).alloc (Nat.le_refl _) (.cells #[.bool k, .int .i64 q, .bool g, .bool x] 26)
  have HI : Hid (∀ w', Below w.heap.size w w' → Ints w' (some ⟨gb, o, none⟩) xs) := fun w' hb => h.below hb (Nat.le_refl _)
  have C1 : Hid (∀ w', Below w.heap.size w w' → Calls Tryz.prog 120 #[.slice (some ⟨gb, o, none⟩) 64 cap, .int .i64 5000] w' fun e w'' => e = .returned (.bool true) ∧ Below w'.heap.size w' w'') := fun w' hb => by
    have := numberSquareOk_any (some ⟨gb, o, none⟩) cap xs 5000 w' (HI.out w' hb) (by rw [hl]; decide) (by decide) (by decide)
    rwa [hl, hy2] at this
  have C2 : Hid (∀ w', Calls Tryz.prog 30 #[conV k q g x] w' fun e w'' => e = .returned (.bool true) ∧ Below w'.heap.size w' w'') := fun w' => by
    have := implCondOk k q g x w'
    rwa [hy1] at this
  have C3 : Hid (∀ w', Calls Tryz.prog 123 #[conV k q g x] w' fun e w'' => e = .returned (.agg #[lv, bk, .int .i64 (sz : Int)]) ∧ Below w'.heap.size w' w'') := fun w' => by
    have := way_any k q g x w'
    rwa [hw] at this
  have C4 : Hid (∀ w', _) := fun w' => chunk_any gb o cap sz hs1 w'
  have CR : Hid (∀ j w', j < m → Below w.heap.size w w' → Calls Tryz.prog 126 #[.slice (some ⟨gb, o + j * sz, none⟩) sz sz] w' fun e w'' => (∃ ok, e = .returned (.tuple #[.string (rnS (pieceL sz xs j)), .bool ok])) ∧ Below w'.heap.size w' w'') := fun j w' hj hb => by
    have := implRunsRow (some ⟨gb, o + j * sz, none⟩) sz (pieceL sz xs j) w' (ints_piece (HI.out w' hb) hl (HM.out j hj)) (by unfold pieceL maxLen; rw [listF_length]; omega)
    rw [show (pieceL sz xs j).length = sz from listF_length _ _] at this
    refine this.mono ?_
    rintro e w'' ⟨rfl, hc⟩
    exact ⟨⟨_, rfl⟩, hc⟩
  have hfl : ∀ (a b c : Value) (W : World), (Instr.field 151 (.agg #[a, b, c]) 2).run Tryz.prog W = .ok c W := way_piece
  clear h hl hin hy1 hy2 hw HM
  refine (callsIn_wide (n := 3)).1 ?_
  refine callsIn_of_wp_marks Tryz.func122 rfl trivial ?_ rfl
  simp only [Tryz.ntmps122, List.size_toArray, List.length_cons, List.length_nil, Nat.reduceAdd, Nat.reduceSub, Array.replicate_succ, Array.replicate_zero, List.push_toArray, List.append_toArray, List.nil_append, List.cons_append]
  gi_wp2_with fail
  have hbs := hb0.size
  generalize World.alloc w _ = V at *
  have BK : Hid (∀ w', Below V.heap.size V w' → (w'.cell? ⟨w.heap.size, 0, none⟩ = some (.bool k) ∧ w'.cell? ⟨w.heap.size, 1, none⟩ = some (.int .i64 q) ∧ w'.cell? ⟨w.heap.size, 2, none⟩ = some (.bool g) ∧ w'.cell? ⟨w.heap.size, 3, none⟩ = some (.bool x))) := fun w' h => (B0.below h B0.lt).four.1
  clear B0
  refine ⟨trivial, (callsIn_wide.2 (C1.out V hb0)).mono ?_⟩
  rintro e w1 ⟨rfl, hb1⟩
  obtain ⟨x0, x1, x2, x3⟩ := BK.out w1 hb1
  gi_wp2_with fail
  refine ⟨trivial, (callsIn_wide.2 (C2.out w1)).mono ?_⟩
  rintro e w2 ⟨rfl, hc⟩
  have hb2 := hb1.trans (hc.mono hb1.size)
  clear hc x0 x1 x2 x3 hb1 C1 C2
  have hbV2 : Below V.heap.size V (w2.alloc (.cells #[.pointer none, .slice none 0 0] 114)) := hb2.alloc hb2.size _
  have b0 : Lib.IsBuilderF 114 5 w2.heap.size w2.heap.size (tcells ⟨#[]⟩) (w2.alloc (.cells #[.pointer none, .slice none 0 0] 114)) := .of (Lib.fresh_isBuilder _ _ w2)
  obtain ⟨x0, x1, x2, x3⟩ := BK.out _ hbV2
  gi_wp2_with fail
  have hw2 : w.heap.size ≤ w2.heap.size := Nat.le_trans hbs hb2.size
  have hsz2 : (w2.alloc (.cells #[.pointer none, .slice none 0 0] 114)).heap.size = w2.heap.size + 1 := World.size_alloc _ _
  generalize World.alloc w2 _ = U at *
  generalize hB : w2.heap.size = B at *
  refine ⟨trivial, (callsIn_wide.2 (C3.out U)).mono ?_⟩
  rintro e w3 ⟨rfl, hc3⟩
  clear x0 x1 x2 x3 BK
  gi_wp2_with fail
  refine ⟨trivial, (callsIn_wide.2 (C4.out w3)).mono ?_⟩
  rintro e w4 ⟨rfl, k1, k2, hz4, hc4⟩
  have hb4 : Below w.heap.size w w4 := hb0.trans ((hbV2.mono hbs).trans ((hc3.mono (Nat.le_trans hbs hbV2.size)).trans (hc4.mono (Nat.le_trans hbs (Nat.le_trans hbV2.size hc3.size)))))
  have b4 : Hid (Lib.IsBuilderF 114 5 B B (tcells (accS sz xs 0)) w4) := builderF_below b0 (hc3.trans (hc4.mono hc3.size))
  have hBw4 : B + 1 ≤ w3.heap.size := by rw [← hsz2]; exact hc3.size
  clear hc3 hc4 b0 hbV2 hb2 hb0 hfl C3 C4 hsz2 hB
  gi_wp2_with fail
  generalize hC : w3.heap.size = C at *
  have hDB : w.heap.size ≤ w4.heap.size := hb4.size
  have hfz : Hid (∀ j, (tcells (accS sz xs j)).length + (rnS (pieceL sz xs j)).size ≤ 140737488355328 ∨ m ≤ j) := fun j => by
    by_cases hj : m ≤ j
    · exact .inr hj
    · have h1 := accS_le sz xs j
      have h2 := rnS_le (pieceL sz xs j)
      refine .inl ?_
      rw [Lib.byteCells_length]
      have : (accS sz xs j).data.toList.length = (accS sz xs j).size := by rw [Array.length_toList]; rfl
      omega
  clear hC
  refine chunkLoop sz m hs C (C + 1) gb o cap hcap rfl rfl
    (fun j W => ((Boxed W C 32 (.slice (some ⟨gb, o, none⟩) 64 cap) ∧ Boxed W (C + 1) 3 (.int .i64 (sz : Int))) ∧ Lib.IsBuilderF 114 5 B B (tcells (accS sz xs j)) W) ∧ Below w.heap.size w W)
    (fun _ _ => False)
    (OwnFrom.and (Own.from (fun s A A' row h hg hr => ⟨⟨boxed_own _ 32 (fun _ : Unit => .slice (some ⟨gb, o, none⟩) 64 cap) () A A' row h.1.1 hg hr, boxed_own _ 3 (fun _ : Unit => .int .i64 (sz : Int)) () A A' row h.1.2 hg hr⟩, builderF_own h.2 hg hr⟩) _) (ownFrom_below (Nat.le_refl _) hDB))
    (fun _ _ _ _ h _ _ => h)
    (fun j W h => ⟨h.1.1.1.cell, h.1.1.2.cell⟩)
    ⟨⟨⟨k1, k2⟩, b4.out⟩, hb4⟩
    (fun j => { tmps := #[.slice (some ⟨gb, o, none⟩) 64 cap, conV k q g x, undef, .pointer (some ⟨w.heap.size, 0, none⟩), .string ⟨#[]⟩, .bool false, .pointer (some ⟨B, 0, none⟩), .slice (some ⟨gb, o + j * sz, none⟩) sz sz, undef, undef, .slice (some ⟨gb, o, none⟩) 64 cap, .bool true, .bool false, .bool false, .agg #[.bool k, .int .i64 q, .bool g, .bool x], .bool true, .bool false, .bool false, .slice (some ⟨gb, o, none⟩) 64 cap, .agg #[.bool k, .int .i64 q, .bool g, .bool x], .agg #[lv, bk, .int .i64 (sz : Int)], .int .i64 (sz : Int), .func (.func 134) #[] #[.pointer (some ⟨C, 0, none⟩), .pointer (some ⟨C + 1, 0, none⟩)], .slice (some ⟨gb, o + j * sz, none⟩) sz sz, undef, undef, undef, undef, undef, undef, undef, undef], defers := [] }) ?assign ?body ?done ?stop
  case assign =>
    intro l j W K hK
    gi_wp2
    exact hK
  case body =>
    rintro l j W hj ⟨⟨⟨K1, K2⟩, hBj⟩, hb⟩
    have hln : (tcells (accS sz xs j)).length + (rnS (pieceL sz xs j)).size ≤ 140737488355328 := by rcases hfz.out j with h | h <;> omega
    gi_wp2_with fail
    refine ⟨trivial, (CallsIn.inRound l (callsIn_wide.2 (CR.out j W hj hb))).mono ?_⟩
    rintro e W1 ⟨⟨ok, rfl⟩, hc1⟩
    have hB1 := builderF_below hBj hc1
    have hb1 := hb.trans (hc1.mono hb.size)
    have hk1 : KeepsFrom w4.heap.size W W1 := ⟨hc1.size, fun i ob _ hi _ => (hc1.block i (Array.getElem?_eq_some_iff.1 hi).1).trans hi⟩
    have K1' : Boxed W1 C 32 (.slice (some ⟨gb, o, none⟩) 64 cap) := (hc1.block C (Array.getElem?_eq_some_iff.1 K1).1).trans K1
    have K2' : Boxed W1 (C + 1) 3 (.int .i64 (sz : Int)) := (hc1.block (C + 1) (Array.getElem?_eq_some_iff.1 K2).1).trans K2
    clear K1 K2 hBj hb hc1
    gi_wp2_with fail
    refine ⟨trivial, (CallsIn.inRound l (callsIn_wide.2 (write_k B B (tcells (accS sz xs j)) (rnS (pieceL sz xs j)) W1 hB1 hln (builderF_le hB1)))).mono ?_⟩
    rintro e W2 ⟨rfl, hx, hbB, hok⟩
    have hB2 : Lib.IsBuilderF 114 5 B B (tcells (accS sz xs (j + 1))) W2 := by
      rw [tcells_app] at hx
      exact .inr hx
    gi_wp2
    refine ⟨hk1.trans ⟨hbB.size, fun i ob hi hio hc => hok i ob hio (fun e => by cases e; omega) (fun c fz e => by subst e; cases hc)⟩, ⟨⟨hok C _ K1' (fun e => by cases e; omega) (fun c fz e => by cases e), hok (C + 1) _ K2' (fun e => by cases e; omega) (fun c fz e => by cases e)⟩, hB2⟩, ?_⟩
    exact hb1.trans (hbB.mono hw2)
  case done =>
    rintro D W hD ⟨⟨_, hBd⟩, hb⟩ hd
    gi_wp2_with fail
    refine ⟨trivial, (callsIn_wide.2 (string_k B B (accS sz xs m) W hBd (builderF_le hBd))).mono ?_⟩
    rintro e W2 ⟨rfl, hbB, hok⟩
    have hd' := hok D _ hd (fun e => by cases e; omega) (fun c fz e => by cases e)
    gi_wp2
    refine ⟨by simp, .inl ⟨_, _, rfl, run_takeDeferred hd', ?_⟩⟩
    refine ⟨_, results_tmp2 (show Tryz.f122.results = #[.tmp 4, .tmp 5] from rfl) _ _ _, rfl, ?_⟩
    exact hb.trans ((hbB.mono hw2).trans (belowK_b (w := w) (Nat.le_refl _) _ D _ _ (by omega) hd' rfl rfl))
  case stop =>
    rintro D j W hD hj h hd
    exact h.elim
end Go.Proofs.YtnlbigjfnjcldaaGreat
