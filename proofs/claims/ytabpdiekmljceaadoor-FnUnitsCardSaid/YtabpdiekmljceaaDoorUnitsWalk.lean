/-
  The walk of laws.FnUnits: what is framed comes back, also behind bytes that are no beginning, and when one unit is missing.
-/
import Derived.Test.YtabpdiekmljceaaDoorCodeKit
import Derived.Test.YtabpdiekmljceaaDoorDrawPlaces
import Derived.Test.YtabpdiekmljceaaDoorUnitDraw
import Derived.Test.YtabpdiekmljceaaDoorUnitsLaws
import Derived.Test.YtabpdiekmljceaaDoorSameTexts
import Derived.Test.YtabpdiekmljceaaDoorAppKit
import Derived.BigRegion
namespace Go.Proofs.YtabpdiekmljceaaDoor
open Go.RowKit
set_option linter.unusedVariables false

/-- Texts that can be framed. -/
def Units (xs : List ByteArray) : Prop := xs.length ≤ 4 ∧ ∀ x ∈ xs, UnitOk x
def frS (xs : List ByteArray) : ByteArray := strOfNums (fr (xs.map nums))
theorem Units.ok {xs : List ByteArray} (h : Units xs) : ∀ u ∈ xs.map nums, escOk u = true := by
  intro u hu
  obtain ⟨x, hx, rfl⟩ := List.mem_map.1 hu
  exact (h.2 x hx).1
theorem fr_size : ∀ xs : List ByteArray, (∀ x ∈ xs, UnitOk x) → (fr (xs.map nums)).length ≤ 35 * xs.length
  | [], _ => by simp [fr]
  | x :: t, h => by
    have ih := fr_size t fun y hy => h y (List.mem_cons_of_mem _ hy)
    have hx := (h x (List.mem_cons_self ..)).2
    have := esc_length_le (nums x) 0
    rw [nums_length] at this
    rw [List.map_cons, fr_cons]
    simp only [List.length_cons, List.length_append]
    omega
theorem Units.size {xs : List ByteArray} (h : Units xs) : (fr (xs.map nums)).length ≤ 140 := by have := fr_size xs h.2; have := h.1; omega
theorem fr_bd : ∀ xs : List ByteArray, Byt (fr (xs.map nums))
  | [] => fun x hx => by cases hx
  | x :: t => by
    rw [List.map_cons, fr_cons]
    intro y hy
    rcases List.mem_cons.1 hy with rfl | hy
    · omega
    rcases List.mem_cons.1 hy with rfl | hy
    · omega
    rcases List.mem_cons.1 hy with rfl | hy
    · omega
    rcases List.mem_append.1 hy with hy | hy
    · exact esc_bd _ _ (nums_bd x) y hy
    · exact fr_bd t y hy
theorem nums_frS (xs : List ByteArray) : nums (frS xs) = fr (xs.map nums) := nums_of _ (fr_bd xs)
theorem frS_size (xs : List ByteArray) : (frS xs).size = (fr (xs.map nums)).length := strOfNums_size _
theorem txts_nums (xs : List ByteArray) : txts (xs.map nums) = xs.map Value.string := by
  unfold txts
  rw [List.map_map, List.map_map]
  apply List.map_congr_left
  intro x _
  simp [of_nums]
theorem framedV_units {xs : List ByteArray} (h : Units xs) : framedV xs = .tuple #[.string (frS xs), .bool true] := by
  unfold framedV
  rw [framed_fr h.ok (by rw [List.length_map]; have := h.1; omega) (by have := h.size; omega)]
  rfl
theorem unitsOf_frS {xs : List ByteArray} (h : Units xs) : unitsOf (nums (frS xs)) = xs.map nums := by
  rw [nums_frS, units_fr h.ok (by rw [List.length_map]; have := h.1; omega) (by have := h.size; omega)]
theorem unf_frS {xs : List ByteArray} (h : Units xs) : unfB (frS xs) = true ∧ unfL (frS xs) = xs.map nums := by
  have e : unfB (frS xs) = true := by
    unfold unfB
    rw [unitsOf_frS h, framed_fr h.ok (by rw [List.length_map]; have := h.1; omega) (by have := h.size; omega)]
    exact decide_eq_true rfl
  exact ⟨e, by unfold unfL; rw [e, if_pos rfl, unitsOf_frS h]⟩
theorem unitsOf_junk {xs : List ByteArray} (h : Units xs) (x y : Int) (hx : 1 ≤ x ∧ x ≤ 255) (hy : 1 ≤ y ∧ y ≤ 255) : unitsOf (nums (strOfNums [x, y] ++ frS xs)) = xs.map nums := by
  rw [nums_append, nums_frS, nums_of [x, y] (by simp; omega)]
  exact units_junk x y (by omega) (by omega) h.ok (by rw [List.length_map]; have := h.1; omega) (by have := h.size; omega)

theorem conv_two (w : World) (u v : Int) : (convert 22 9 (.slice (some ⟨w.heap.size, 0, none⟩) 2 2)).run Tryd.prog (w.alloc (.cells #[.int .u8 u, .int .u8 v] 5)).drew = .ok (.string (strOfNums [u, v])) (w.alloc (.cells #[.int .u8 u, .int .u8 v] 5)).drew := by
  have h : (w.alloc (.cells #[.int .u8 u, .int .u8 v] 5)).drew.ownsRow 0 5 1 (.slice (some ⟨w.heap.size, 0, none⟩) 2 2) 2 ([u, v].map (Value.int .u8)) :=
    ⟨rfl, .inr ⟨w.heap.size, 2, #[.int .u8 u, .int .u8 v], rfl, Nat.zero_le _, heap_alloc_new w _, Nat.le_refl _, by unfold maxLen; omega, rfl, rfl⟩⟩
  exact convF h
theorem own_cap {w : World} {B e g n c : Nat} {xs : List Value} (h : w.ownsRow B e 1 (.slice (some ⟨g, 0, none⟩) n c) n xs) : n ≤ c := by
  rcases h.2 with ⟨h, _⟩ | ⟨g', c', cur, h1, _, _, h2, _⟩
  · cases h
  · cases h1; exact h2
theorem texts_some {w : World} {B n g c : Nat} {xs : List ByteArray} (h : w.ownsRow B 9 1 (.slice (some ⟨g, 0, none⟩) n c) n (xs.map Value.string)) (hn : n = xs.length) : Texts w (some ⟨g, 0, none⟩) xs :=
  .inr ⟨g, 0, rfl, (h.lt g rfl).2, fun i hi => by
    rw [Nat.zero_add, h.cellAt i (by omega), List.getElem?_map, List.getElem?_eq_getElem hi]
    simp [List.getElem?_eq_getElem hi]⟩
/-- The texts but one. -/
def less (xs : List ByteArray) (k : Nat) : List ByteArray := xs.take k ++ xs.drop (k + 1)
theorem less_units {xs : List ByteArray} (h : Units xs) (k : Nat) : Units (less xs k) := by
  refine ⟨?_, fun x hx => ?_⟩
  · unfold less
    have := h.1
    rw [List.length_append, List.length_take, List.length_drop]
    omega
  · unfold less at hx
    rcases List.mem_append.1 hx with hx | hx
    · exact h.2 x (List.mem_of_mem_take hx)
    · exact h.2 x (List.mem_of_mem_drop hx)
theorem less_short {xs : List ByteArray} {k : Nat} (hk : k < xs.length) : (frS (less xs k)).size < (frS xs).size := by
  have e : xs = xs.take k ++ xs[k] :: xs.drop (k + 1) := by rw [← List.drop_eq_getElem_cons hk, List.take_append_drop]
  have hf : ∀ a b : List (List Int), fr (a ++ b) = fr a ++ fr b := fun a b => by unfold fr; rw [List.flatMap_append]
  rw [frS_size, frS_size]
  conv => rhs; rw [e]
  unfold less
  rw [List.map_append, hf, List.map_append, hf, List.map_cons, fr_cons]
  simp only [List.length_append, List.length_cons]
  omega
/-- append([]string{}, units[:k]...) in a region that draws its order. -/
theorem less_one {w9 W : World} (hW : W.heap = (w9.alloc (.cells #[] 9)).heap) (ho : W.os = w9.os) (ht : W.tape = w9.tape) (hp : W.output = w9.output) {g k c : Nat} {xs : List ByteArray} (hg : g < w9.heap.size) (hx : ∀ i, i < xs.length → w9.cell? ⟨g, i, none⟩ = some (.string (xs.getD i ByteArray.empty))) (hk : k ≤ xs.length) (h4 : xs.length ≤ 4) :
    ∃ v' w', (Builtin.append_ #[24, 24] 24 #[.slice (some ⟨w9.heap.size, 0, none⟩) 0 0, .slice (some ⟨g, 0, none⟩) k c]).run Tryd.prog W = .ok v' w' ∧
      ∃ g' c', v' = .slice (some ⟨g', 0, none⟩) k c' ∧ w'.ownsRow w9.heap.size 9 1 (.slice (some ⟨g', 0, none⟩) k c') k ((xs.take k).map Value.string) ∧ Below w9.heap.size w9 w' := by
  have hbW : Below w9.heap.size w9 W := ⟨ho, ht, hp, by rw [hW]; simp, fun j hj => by rw [hW]; exact Below.heap_alloc w9 _ j hj⟩
  have hown : W.ownsRow w9.heap.size 9 1 (.slice (some ⟨w9.heap.size, 0, none⟩) 0 0) 0 [] :=
    ⟨rfl, .inr ⟨w9.heap.size, 0, #[], rfl, Nat.le_refl _, by rw [hW]; exact heap_alloc_new w9 _, Nat.le_refl _, Nat.zero_le _, rfl, rfl⟩⟩
  obtain ⟨g', c', w', hr, ho', hgr⟩ := app_texts W w9.heap.size 0 g 0 k c _ [] (xs.take k) hown hbW.size (by rw [List.length_take]; omega) (fun j hj => by
    rw [Nat.zero_add, hbW.cell (p := ⟨g, j, none⟩) hg, hx j (by omega)]
    simp [List.getD, hj]) (by omega) (by simp)
  rw [Nat.zero_add] at hr
  rw [Nat.zero_add, List.nil_append] at ho'
  exact ⟨_, w', hr, g', c', rfl, ho', hbW.grown hgr hbW.size (fun j hj => by simp [Value.ownBlock] at hj; omega)⟩
/-- append(.., units[k+1:]...). -/
theorem less_two {w9 w10 W : World} (hW : W.heap = w10.heap) (ho : W.os = w10.os) (ht : W.tape = w10.tape) (hp : W.output = w10.output) (hb : Below w9.heap.size w9 w10) {g g' off k m c c' : Nat} {xs : List ByteArray} (hg : g < w9.heap.size) (hx : ∀ i, i < xs.length → w9.cell? ⟨g, i, none⟩ = some (.string (xs.getD i ByteArray.empty))) (hk : k < xs.length) (hm : m = xs.length - (k + 1)) (hoff : off = k + 1 ∨ m = 0) (h4 : xs.length ≤ 4)
    (hown : w10.ownsRow w9.heap.size 9 1 (.slice (some ⟨g', 0, none⟩) k c') k ((xs.take k).map Value.string)) :
    ∃ v' w', (Builtin.append_ #[24, 24] 24 #[.slice (some ⟨g', 0, none⟩) k c', .slice (some ⟨g, off, none⟩) m c]).run Tryd.prog W = .ok v' w' ∧
      ∃ g'' c'', v' = .slice (some ⟨g'', 0, none⟩) (k + m) c'' ∧ w'.ownsRow w9.heap.size 9 1 (.slice (some ⟨g'', 0, none⟩) (k + m) c'') (k + m) ((less xs k).map Value.string) ∧ Below w9.heap.size w9 w' := by
  have hbW : Below w9.heap.size w9 W := hb.trans ⟨ho, ht, hp, by rw [hW]; exact Nat.le_refl _, fun j hj => by rw [hW]⟩
  have hown' : W.ownsRow w9.heap.size 9 1 (.slice (some ⟨g', 0, none⟩) k c') k ((xs.take k).map Value.string) := by
    refine ⟨hown.1, ?_⟩
    rcases hown.2 with h | ⟨a, b, cur, h1, h2, h3, h4⟩
    · exact .inl h
    · exact .inr ⟨a, b, cur, h1, h2, by rw [hW]; exact h3, h4⟩
  obtain ⟨g'', c'', w', hr, ho', hgr⟩ := app_texts W w9.heap.size k g off m c _ _ (xs.drop (k + 1)) hown' hbW.size (by rw [List.length_drop]; omega) (fun j hj => by
    rcases hoff with rfl | rfl
    · rw [hbW.cell (p := ⟨g, k + 1 + j, none⟩) hg, hx (k + 1 + j) (by omega)]
      simp [List.getD, List.getElem?_drop]
    · omega) (by omega) (by simp)
  rw [← List.map_append] at ho'
  exact ⟨_, w', hr, g'', c'', rfl, ho', hbW.grown hgr hbW.size (fun j hj => (hown'.lt j hj).1)⟩
theorem framedU {xs : List ByteArray} (h : Units xs) {n : Nat} (hn : n = xs.length) (a : Option Addr) (c : Nat) (w : World) (ht : Texts w a xs) :
    Calls Tryd.prog 9 #[.slice a n c] w fun e w' => e = .returned (.tuple #[.string (frS xs), .bool true]) ∧ Below w.heap.size w w' := by
  rw [← framedV_units h, hn]
  exact implFramed a c xs w ht (by have := h.1; omega)
theorem unframedU {xs : List ByteArray} (h : Units xs) {n : Nat} (hn : n = xs.length) (w : World) (hm : MaxIn w ∧ 0 < w.heap.size) :
    Calls Tryd.prog 10 #[.string (frS xs)] w fun e w' => ∃ v, e = .returned (.tuple #[v, .bool true]) ∧ TextRow w' v xs ∧ Below w.heap.size w w' := by
  refine (implUnframed (frS xs) w (by rw [frS_size]; have := h.size; omega) hm.1 hm.2).mono ?_
  rintro e w' ⟨v, rfl, ho, hb⟩
  rw [(unf_frS h).2, txts_nums] at ho
  exact ⟨v, by rw [(unf_frS h).1], textRow_of_owns ho, hb⟩
theorem unitsInU {xs : List ByteArray} {s : ByteArray} (hs : s.size ≤ 1048576) (h : unitsOf (nums s) = xs.map nums) (w : World) (hm : MaxIn w ∧ 0 < w.heap.size) :
    Calls Tryd.prog 12 #[.string s] w fun e w' => ∃ v, e = .returned v ∧ TextRow w' v xs ∧ Below w.heap.size w w' := by
  refine (implUnitsIn s w hs hm.1 hm.2).mono ?_
  rintro e w' ⟨v, rfl, ho, hb⟩
  rw [h, txts_nums] at ho
  exact ⟨v, rfl, textRow_of_owns ho, hb⟩

set_option maxRecDepth 20000 in
set_option maxHeartbeats 3200000 in
theorem fnUnits_in (a : Option Addr) (len cap : Nat) (w : World) (hc : CodeIn w a len cap) (hmax : MaxIn w) (hwsz : 0 < w.heap.size) :
    Calls Tryd.prog 3 #[.slice a len cap] w fun e w' => e = .returned (.bool true) ∧ Below w.heap.size w w' := by
  have hlen := hc.1
  have HCODE : Hid (CodeRow w w.heap.size a len) := hc.2.2
  have HMAX : Hid (∀ w', Below w.heap.size w w' → MaxIn w' ∧ 0 < w'.heap.size) := fun w' hb => ⟨hmax.below hwsz hb, Nat.lt_of_lt_of_le hwsz hb.size⟩
  clear hc hmax
  go_enter Tryd.func3, Tryd.ntmps3
  go_wp2_with fail
  refine (big_any a len cap _ hlen).mono ?_
  rintro e w1 ⟨rfl, hw⟩
  subst w1
  go_wp2_with fail
  refine (drawUnits_some a len cap w.heap.size _ HCODE.out (Nat.le_refl _)).mono ?_
  rintro e w1 ⟨g1, c1, xs, rfl, hx4, hxs, hown1, hb1⟩
  have hs1 := hb1.size
  go_wp2_with fail
  refine (drawPlaces_any a len cap w.heap.size _ (HCODE.out.below hb1) hs1).mono ?_
  rintro e w2 ⟨gp, cp, l, rfl, hl12, hl4, hownP, hb2⟩
  have hs2 := hb2.size
  have B2 : Below w.heap.size w w2 := hb1.trans (hb2.mono hs1)
  have HU : Hid (Units xs) := ⟨hx4, hxs⟩
  have p0 := cellI hownP hl12 0 (by omega)
  have p1 := cellI hownP hl12 1 (by omega)
  have p2 := cellI hownP hl12 2 (by omega)
  have q0 := getD_in hl12 (j := 0) (by omega) hl4
  have q1 := getD_in hl12 (j := 1) (by omega) hl4
  have q2 := getD_in hl12 (j := 2) (by omega) hl4
  generalize l.getD 0 0 = y0 at p0 q0
  generalize l.getD 1 0 = y1 at p1 q1
  generalize l.getD 2 0 = y2 at p2 q2
  have hgp := (hownP.lt gp rfl).2
  clear hl12 hl4 hownP
  have hg1 := (hown1.lt g1 rfl).2
  have hcap0 := own_cap hown1
  have HX : Hid (∀ i, i < xs.length → w2.cell? ⟨g1, i, none⟩ = some (.string (xs.getD i ByteArray.empty))) := fun i hi => by
    rw [hb2.cell (p := ⟨g1, i, none⟩) hg1, hown1.cellAt i (by omega), List.getElem?_map, List.getElem?_eq_getElem hi]
    simp [List.getElem?_eq_getElem hi]
  clear hown1 hxs
  obtain ⟨n, hn⟩ : ∃ n, n = xs.length := ⟨_, rfl⟩
  have HN : Hid (n = xs.length) := hn
  rw [← hn] at hx4 hcap0 ⊢
  clear hn
  have hcap : (n : Int) ≤ (c1 : Int) := by omega
  have hn4 : (n : Int) ≤ 4 := by omega
  have hg12 : g1 < w2.heap.size := by omega
  -- what is framed
  obtain ⟨g3, c3, w3, happ3, hown3, hgr3⟩ := app_texts (w2.alloc (.cells #[] 9)) w2.heap.size 0 g1 0 n c1 (.slice (some ⟨w2.heap.size, 0, none⟩) 0 0) [] xs (World.ownsRow_made w2 #[] 0 (Nat.le_refl _) (by unfold maxLen; omega) rfl) (by simp) HN.out.symm (fun j hj => by
    rw [Nat.zero_add]
    exact ((Below.refl w2.heap.size w2).alloc (Nat.le_refl _) _ |>.cell (p := ⟨g1, j, none⟩) hg12).trans (HX.out j (by rw [← HN.out]; exact hj))) (by omega) (by simp)
  have B3 : Below w2.heap.size w2 w3 := ((Below.refl w2.heap.size w2).alloc (Nat.le_refl _) _).grown hgr3 (by simp) (fun j hj => by simp [Value.ownBlock] at hj; omega)
  rw [Nat.zero_add] at happ3
  rw [Nat.zero_add, List.nil_append] at hown3
  go_wp2_with (at_builtin; refine wpList_append_run (by rfl) _ _ _ _ (by rfl) _ _ _ _ (by rfl) (by rfl) happ3 ?_)
  refine (framedU HU.out HN.out _ c3 w3 (texts_some hown3 HN.out)).mono ?_
  rintro e w4 ⟨rfl, hb4⟩
  have B4 : Below w2.heap.size w2 w4 := B3.trans (hb4.mono B3.size)
  clear happ3 hown3 hgr3
  go_wp2_with fail
  refine (unframedU HU.out HN.out w4 (HMAX.out w4 (B2.trans (B4.mono B2.size)))).mono ?_
  rintro e w5 ⟨v5, rfl, R5, hb5⟩
  have B5 : Below w2.heap.size w2 w5 := B4.trans (hb5.mono B4.size)
  have p0' : w5.cell? ⟨gp, 0, none⟩ = some (.int .i64 y0) := (B5.cell (p := ⟨gp, 0, none⟩) hgp).trans p0
  have p1' : w5.cell? ⟨gp, 1, none⟩ = some (.int .i64 y1) := (B5.cell (p := ⟨gp, 1, none⟩) hgp).trans p1
  have hgp5 : gp < w5.heap.size := Nat.lt_of_lt_of_le hgp B5.size
  have HR5 : Hid (TextRow w5 v5 xs) := R5
  have HP2 : Hid (w2.cell? ⟨gp, 2, none⟩ = some (.int .i64 y2)) := p2
  clear p0 p1 p2 hb4 hb5 R5
  have HS : Hid ((frS xs).size ≤ 140) := by show _ ≤ _; rw [frS_size]; exact HU.out.size
  obtain ⟨s, hs⟩ : ∃ s, s = frS xs := ⟨_, rfl⟩
  have HSS : Hid (s = frS xs) := hs
  rw [← hs] at HS ⊢
  clear hs
  obtain ⟨q00, q01⟩ := q0
  obtain ⟨q10, q11⟩ := q1
  have hcv := conv_two
  go_wp2_with fail
  go_region
  have hb6 : Below w5.heap.size w5 (w5.alloc (.cells #[.int .u8 (1 + y0 % 255), .int .u8 (1 + y1 % 255)] 5)).drew := ((Below.refl w5.heap.size w5).alloc (Nat.le_refl _) _).drew
  generalize (w5.alloc (.cells #[.int .u8 (1 + y0 % 255), .int .u8 (1 + y1 % 255)] 5)).drew = w6 at hb6 ⊢
  have B6 : Below w2.heap.size w2 w6 := B5.trans (hb6.mono B5.size)
  obtain ⟨jk, hjk⟩ : ∃ jk, jk = strOfNums [1 + y0 % 255, 1 + y1 % 255] := ⟨_, rfl⟩
  have hjz : jk.size = 2 := by rw [hjk]; exact strOfNums_size _
  have HJ : Hid (unitsOf (nums (jk ++ s)) = xs.map nums) := by
    show _ = _
    rw [hjk, HSS.out]
    exact unitsOf_junk HU.out _ _ (by omega) (by omega)
  rw [← hjk]
  have hs140 : s.size ≤ 140 := HS.out
  have hcat : ¬ 9223372036854775807 < jk.size + s.size := by omega
  have hjs : (jk ++ s).size ≤ 1048576 := by rw [ByteArray.size_append]; omega
  have R6 : TextRow w6 v5 xs := HR5.out.below hb6 (Nat.le_refl _)
  have RU : Hid (∀ w', Below w2.heap.size w2 w' → TextRow w' (.slice (some ⟨g1, 0, none⟩) n c1) xs) := fun w' hb => .inr ⟨g1, c1, by rw [HN.out], Nat.lt_of_lt_of_le hg12 hb.size, fun i hi => (hb.cell (p := ⟨g1, i, none⟩) hg12).trans (HX.out i hi)⟩
  clear hjk hcv p0' p1' hb6 q00 q01 q10 q11 hjz
  have hx5 : xs.length ≤ 2000000 := by rw [← HN.out]; omega
  have HR6 : Hid (TextRow w6 v5 xs) := R6
  have HX5 : Hid (xs.length ≤ 2000000) := hx5
  clear R6 hx5
  by_cases hn0 : n = 0
  · have hxe : xs = [] := List.eq_nil_of_length_eq_zero (by rw [← HN.out]; exact hn0)
    have hse : s = ⟨#[]⟩ := by rw [HSS.out, hxe]; rfl
    have HE : Hid (s.toList.isEmpty = true) := by show _ = _; rw [hse, Go.ByteArray.toList_eq]; rfl
    clear hxe hse
    subst hn0
    go_wp2_with (first
      | (go_at_call 11; refine (sameTexts_any _ _ xs _ HR6.out (RU.out _ B6) HX5.out).mono ?_; rintro e w7 ⟨rfl, hb7⟩; have B7 : Below w2.heap.size w2 w7 := B6.trans (hb7.mono B6.size); clear HR6 hb7)
      | (go_at_call 12; refine (unitsInU hjs HJ.out _ (HMAX.out _ (B2.trans (B7.mono B2.size)))).mono ?_; rintro e w8 ⟨v8, rfl, R8, hb8⟩; have B8 : Below w2.heap.size w2 w8 := B7.trans (hb8.mono B7.size); have HR8 : Hid (TextRow w8 v8 xs) := R8; clear R8 hb8)
      | (go_at_call 11; refine (sameTexts_any _ _ xs _ HR8.out (RU.out _ B8) HX5.out).mono ?_; rintro e w9 ⟨rfl, hb9⟩; have B9 : Below w2.heap.size w2 w9 := B8.trans (hb9.mono B8.size); clear HR8 hb9))
    go_ret
    exact ⟨congrArg (fun b => Ending.returned (Value.bool b)) HE.out, B2.trans (B9.mono B2.size)⟩
  have hn1 : (0 : Int) < (n : Int) := by omega
  have hnb : ((n : Int) == 0) = false := by rw [beq_eq_false_iff_ne]; omega
  obtain ⟨q20, q21⟩ := q2
  obtain ⟨kk, hk⟩ : ∃ kk : Nat, y2 % (n : Int) = kk := ⟨(y2 % (n : Int)).toNat, by have := Int.emod_nonneg y2 (b := (n : Int)) (by omega); omega⟩
  have hkn : (kk : Int) < (n : Int) := by rw [← hk]; exact Int.emod_lt_of_pos _ (by omega)
  have hk0 : (0 : Int) ≤ (kk : Int) := by omega
  have hkt : y2.tmod (n : Int) = kk := by rw [Int.tmod_eq_emod_of_nonneg q20]; exact hk
  go_wp2_with (first
    | (go_at_call 11; refine (sameTexts_any _ _ xs _ HR6.out (RU.out _ B6) HX5.out).mono ?_; rintro e w7 ⟨rfl, hb7⟩; have B7 : Below w2.heap.size w2 w7 := B6.trans (hb7.mono B6.size); clear HR6 hb7)
    | (go_at_call 12; refine (unitsInU hjs HJ.out _ (HMAX.out _ (B2.trans (B7.mono B2.size)))).mono ?_; rintro e w8 ⟨v8, rfl, R8, hb8⟩; have B8 : Below w2.heap.size w2 w8 := B7.trans (hb8.mono B7.size); have HR8 : Hid (TextRow w8 v8 xs) := R8; clear R8 hb8)
    | (go_at_call 11; refine (sameTexts_any _ _ xs _ HR8.out (RU.out _ B8) HX5.out).mono ?_; rintro e w9 ⟨rfl, hb9⟩; have B9 : Below w2.heap.size w2 w9 := B8.trans (hb9.mono B8.size); have p2' : w9.cell? ⟨gp, 2, none⟩ = some (.int .i64 y2) := (B9.cell (p := ⟨gp, 2, none⟩) hgp).trans HP2.out; clear HR8 hb9))
  have hk1 : IntKind.i64.wrap ((kk : Int) + 1) = (kk : Int) + 1 := by simp [IntKind.wrap, IntKind.bits, IntKind.signed]; omega
  have hk01 : (0 : Int) ≤ (kk : Int) + 1 := by omega
  have hkn1 : (kk : Int) + 1 ≤ (n : Int) := by omega
  have hkc : (kk : Int) ≤ (c1 : Int) := by omega
  have hkx : kk < xs.length := by rw [← HN.out]; omega
  have hg9 : g1 < w9.heap.size := Nat.lt_of_lt_of_le hg12 B9.size
  have HX9 : Hid (∀ i, i < xs.length → w9.cell? ⟨g1, i, none⟩ = some (.string (xs.getD i ByteArray.empty))) := fun i hi => (B9.cell (p := ⟨g1, i, none⟩) hg12).trans (HX.out i hi)
  have HMM : Hid (n - (kk + 1) = xs.length - (kk + 1)) := by show _ = _; rw [← HN.out]
  have h4x : xs.length ≤ 4 := by rw [← HN.out]; exact hx4
  clear hk hkt p2'
  by_cases hcc : c1 = kk + 1
  · subst hcc
    have hkc2 : (kk : Int) ≤ (kk : Int) + 1 := by omega
    have HM0 : Hid (0 = xs.length - (kk + 1)) := by show _ = _; rw [← HMM.out]; omega
    clear hkc
    go_region_held3 (fun _ => True) (trivial) (first
      | (refine step_append_run (by rfl) _ _ _ _ (by rfl) (.slice (some ⟨w9.heap.size, 0, none⟩) 0 0) (.slice (some ⟨g1, 0, none⟩) kk (kk + 1)) (by rfl) (by rfl) (fun v' w' => ∃ g' c', v' = .slice (some ⟨g', 0, none⟩) kk c' ∧ w'.ownsRow w9.heap.size 9 1 (.slice (some ⟨g', 0, none⟩) kk c') kk ((xs.take kk).map Value.string) ∧ Below w9.heap.size w9 w') (less_one (w9 := w9) (by rfl) (by rfl) (by rfl) (by rfl) hg9 HX9.out (Nat.le_of_lt hkx) h4x) ?_; rintro _ w10 ⟨g10, c10, rfl, hown10, hb10⟩)
      | (refine step_append_run (by rfl) _ _ _ _ (by rfl) (.slice (some ⟨g10, 0, none⟩) kk c10) (.slice (some ⟨g1, 0, none⟩) 0 0) (by rfl) (by rfl) (fun v' w' => ∃ g' c', v' = .slice (some ⟨g', 0, none⟩) kk c' ∧ w'.ownsRow w9.heap.size 9 1 (.slice (some ⟨g', 0, none⟩) kk c') kk ((less xs kk).map Value.string) ∧ Below w9.heap.size w9 w') (less_two (w9 := w9) (w10 := w10) (by rfl) (by rfl) (by rfl) (by rfl) hb10 hg9 HX9.out hkx HM0.out (.inr rfl) h4x hown10) ?_; rintro _ w11 ⟨g11, c11, rfl, hown11, hb11⟩))
    have B11 : Below w2.heap.size w2 w11 := B9.trans (hb11.mono B9.size)
    have HUL : Hid (Units (less xs kk)) := less_units HU.out kk
    have HM : Hid (kk = (less xs kk).length) := by
      have := hown11.1
      rw [List.length_map] at this
      show _ = _
      omega
    have HSH : Hid ((frS (less xs kk)).size < (frS xs).size) := less_short hkx
    have hm4 : kk ≤ 4 := by rw [HM.out]; exact HUL.out.1
    have hun : Hid (unitsOf (nums (frS (less xs kk))) = (less xs kk).map nums) := unitsOf_frS HUL.out
    have hsz : Hid ((frS (less xs kk)).size ≤ 140) := by show _ ≤ _; rw [frS_size]; exact HUL.out.size
    generalize less xs kk = ys at *
    have hg11 := (hown11.lt g11 rfl).2
    obtain ⟨g12, c12, w12, happ12, hown12, hgr12⟩ := app_texts (w11.alloc (.cells #[] 9)) w11.heap.size 0 g11 0 kk c11 (.slice (some ⟨w11.heap.size, 0, none⟩) 0 0) [] ys (World.ownsRow_made w11 #[] 0 (Nat.le_refl _) (by unfold maxLen; omega) rfl) (by simp) HM.out.symm (fun j hj => by
      rw [Nat.zero_add]
      refine ((Below.refl w11.heap.size w11).alloc (Nat.le_refl _) _ |>.cell (p := ⟨g11, j, none⟩) hg11).trans ?_
      have hj' : j < ys.length := by rw [← HM.out]; exact hj
      rw [hown11.cellAt j (by omega), List.getElem?_map, List.getElem?_eq_getElem hj']
      simp [List.getElem?_eq_getElem hj']) (by omega) (by simp)
    have hb12 : Below w11.heap.size w11 w12 := ((Below.refl w11.heap.size w11).alloc (Nat.le_refl _) _).grown hgr12 (by simp) (fun j hj => by simp [Value.ownBlock] at hj; omega)
    rw [Nat.zero_add] at happ12
    rw [Nat.zero_add, List.nil_append] at hown12
    have R11 : Hid (TextRow w11 (.slice (some ⟨g11, 0, none⟩) kk c11) ys) := textRow_of_owns hown11
    have T12 : Hid (Texts w12 (some ⟨g12, 0, none⟩) ys) := texts_some hown12 HM.out
    clear hown11 hown12 hgr12 hb10 hown10 hb11
    go_wp2_with (at_builtin; refine wpList_append_run (by rfl) _ _ _ _ (by rfl) _ _ _ _ (by rfl) (by rfl) happ12 ?_)
    refine (framedU HUL.out HM.out _ c12 w12 T12.out).mono ?_
    rintro e w13 ⟨rfl, hb13⟩
    have hb13' : Below w11.heap.size w11 w13 := hb12.trans (hb13.mono hb12.size)
    have HSZ : Hid (((frS ys).size : Int) < (s.size : Int)) := by have := HSH.out; rw [← HSS.out] at this; show (_ : Int) < _; omega
    generalize frS ys = tt at *
    have hsz' : tt.size ≤ 1048576 := by have := hsz.out; omega
    have hlt : (tt.size : Int) < (s.size : Int) := HSZ.out
    have HY5 : Hid (ys.length ≤ 2000000) := by show _ ≤ _; rw [← HM.out]; omega
    clear happ12 hb13
    go_wp2_with (first
      | (go_at_call 12; refine (unitsInU hsz' hun.out _ (HMAX.out _ (B2.trans ((B11.trans (hb13'.mono B11.size)).mono B2.size)))).mono ?_; rintro e w14 ⟨v14, rfl, R14, hb14⟩; have hb14' : Below w11.heap.size w11 w14 := hb13'.trans (hb14.mono hb13'.size); have HR14 : Hid (TextRow w14 v14 ys) := R14; clear R14 hb14)
      | (go_at_call 11; refine (sameTexts_any _ _ ys _ HR14.out (R11.out.below hb14' (Nat.le_refl _)) HY5.out).mono ?_; rintro e w15 ⟨rfl, hb15⟩; have hb15' : Below w11.heap.size w11 w15 := hb14'.trans (hb15.mono hb14'.size)))
    go_ret
    exact ⟨rfl, B2.trans ((B11.trans (hb15'.mono B11.size)).mono B2.size)⟩
  · have hcc' : (kk : Int) + 1 < (c1 : Int) := by omega
    go_region_held3 (fun _ => True) (trivial) (first
      | (refine step_append_run (by rfl) _ _ _ _ (by rfl) (.slice (some ⟨w9.heap.size, 0, none⟩) 0 0) (.slice (some ⟨g1, 0, none⟩) kk c1) (by rfl) (by rfl) (fun v' w' => ∃ g' c', v' = .slice (some ⟨g', 0, none⟩) kk c' ∧ w'.ownsRow w9.heap.size 9 1 (.slice (some ⟨g', 0, none⟩) kk c') kk ((xs.take kk).map Value.string) ∧ Below w9.heap.size w9 w') (less_one (w9 := w9) (by rfl) (by rfl) (by rfl) (by rfl) hg9 HX9.out (Nat.le_of_lt hkx) h4x) ?_; rintro _ w10 ⟨g10, c10, rfl, hown10, hb10⟩)
      | (refine step_append_run (by rfl) _ _ _ _ (by rfl) (.slice (some ⟨g10, 0, none⟩) kk c10) (.slice (some ⟨g1, kk + 1, none⟩) (n - (kk + 1)) (c1 - (kk + 1))) (by rfl) (by rfl) (fun v' w' => ∃ g' c', v' = .slice (some ⟨g', 0, none⟩) (kk + (n - (kk + 1))) c' ∧ w'.ownsRow w9.heap.size 9 1 (.slice (some ⟨g', 0, none⟩) (kk + (n - (kk + 1))) c') (kk + (n - (kk + 1))) ((less xs kk).map Value.string) ∧ Below w9.heap.size w9 w') (less_two (w9 := w9) (w10 := w10) (by rfl) (by rfl) (by rfl) (by rfl) hb10 hg9 HX9.out hkx HMM.out (.inl rfl) h4x hown10) ?_; rintro _ w11 ⟨g11, c11, rfl, hown11, hb11⟩))
    have B11 : Below w2.heap.size w2 w11 := B9.trans (hb11.mono B9.size)
    have HUL : Hid (Units (less xs kk)) := less_units HU.out kk
    have HM : Hid (kk + (n - (kk + 1)) = (less xs kk).length) := by
      have := hown11.1
      rw [List.length_map] at this
      show _ = _
      omega
    have HSH : Hid ((frS (less xs kk)).size < (frS xs).size) := less_short hkx
    have hm4 : kk + (n - (kk + 1)) ≤ 4 := by rw [HM.out]; exact HUL.out.1
    have hun : Hid (unitsOf (nums (frS (less xs kk))) = (less xs kk).map nums) := unitsOf_frS HUL.out
    have hsz : Hid ((frS (less xs kk)).size ≤ 140) := by show _ ≤ _; rw [frS_size]; exact HUL.out.size
    generalize kk + (n - (kk + 1)) = m at *
    generalize less xs kk = ys at *
    have hg11 := (hown11.lt g11 rfl).2
    obtain ⟨g12, c12, w12, happ12, hown12, hgr12⟩ := app_texts (w11.alloc (.cells #[] 9)) w11.heap.size 0 g11 0 m c11 (.slice (some ⟨w11.heap.size, 0, none⟩) 0 0) [] ys (World.ownsRow_made w11 #[] 0 (Nat.le_refl _) (by unfold maxLen; omega) rfl) (by simp) HM.out.symm (fun j hj => by
      rw [Nat.zero_add]
      refine ((Below.refl w11.heap.size w11).alloc (Nat.le_refl _) _ |>.cell (p := ⟨g11, j, none⟩) hg11).trans ?_
      have hj' : j < ys.length := by rw [← HM.out]; exact hj
      rw [hown11.cellAt j (by omega), List.getElem?_map, List.getElem?_eq_getElem hj']
      simp [List.getElem?_eq_getElem hj']) (by omega) (by simp)
    have hb12 : Below w11.heap.size w11 w12 := ((Below.refl w11.heap.size w11).alloc (Nat.le_refl _) _).grown hgr12 (by simp) (fun j hj => by simp [Value.ownBlock] at hj; omega)
    rw [Nat.zero_add] at happ12
    rw [Nat.zero_add, List.nil_append] at hown12
    have R11 : Hid (TextRow w11 (.slice (some ⟨g11, 0, none⟩) m c11) ys) := textRow_of_owns hown11
    have T12 : Hid (Texts w12 (some ⟨g12, 0, none⟩) ys) := texts_some hown12 HM.out
    clear hown11 hown12 hgr12 hb10 hown10 hb11
    go_wp2_with (at_builtin; refine wpList_append_run (by rfl) _ _ _ _ (by rfl) _ _ _ _ (by rfl) (by rfl) happ12 ?_)
    refine (framedU HUL.out HM.out _ c12 w12 T12.out).mono ?_
    rintro e w13 ⟨rfl, hb13⟩
    have hb13' : Below w11.heap.size w11 w13 := hb12.trans (hb13.mono hb12.size)
    have HSZ : Hid (((frS ys).size : Int) < (s.size : Int)) := by have := HSH.out; rw [← HSS.out] at this; show (_ : Int) < _; omega
    generalize frS ys = tt at *
    have hsz' : tt.size ≤ 1048576 := by have := hsz.out; omega
    have hlt : (tt.size : Int) < (s.size : Int) := HSZ.out
    have HY5 : Hid (ys.length ≤ 2000000) := by show _ ≤ _; rw [← HM.out]; omega
    clear happ12 hb13
    go_wp2_with (first
      | (go_at_call 12; refine (unitsInU hsz' hun.out _ (HMAX.out _ (B2.trans ((B11.trans (hb13'.mono B11.size)).mono B2.size)))).mono ?_; rintro e w14 ⟨v14, rfl, R14, hb14⟩; have hb14' : Below w11.heap.size w11 w14 := hb13'.trans (hb14.mono hb13'.size); have HR14 : Hid (TextRow w14 v14 ys) := R14; clear R14 hb14)
      | (go_at_call 11; refine (sameTexts_any _ _ ys _ HR14.out (R11.out.below hb14' (Nat.le_refl _)) HY5.out).mono ?_; rintro e w15 ⟨rfl, hb15⟩; have hb15' : Below w11.heap.size w11 w15 := hb14'.trans (hb15.mono hb14'.size)))
    go_ret
    exact ⟨rfl, B2.trans ((B11.trans (hb15'.mono B11.size)).mono B2.size)⟩

set_option maxHeartbeats 400000 in
theorem fnUnits_big (a : Option Addr) (len cap : Nat) (w : World) (h : 1048576 < (len : Int)) :
    Calls Tryd.prog 3 #[.slice a len cap] w fun e w' => e = .returned (.bool true) ∧ Below w.heap.size w w' := by
  go_enter Tryd.func3, Tryd.ntmps3
  go_wp2_with (go_at_call 6; refine (big_yes a len cap _ h).mono ?_; rintro e w1 ⟨rfl, hw⟩; subst w1)
  go_ret
  exact ⟨rfl, Below.refl _ _⟩
theorem fnUnits_walk (a : Option Addr) (len cap : Nat) (w : World) (hc : 1048576 < (len : Int) ∨ CodeIn w a len cap) (hmax : MaxIn w) (hwsz : 0 < w.heap.size) :
    Calls Tryd.prog 3 #[.slice a len cap] w fun e w' => e = .returned (.bool true) ∧ Below w.heap.size w w' := by
  rcases hc with h | h
  · exact fnUnits_big a len cap w h
  · exact fnUnits_in a len cap w h hmax hwsz
end Go.Proofs.YtabpdiekmljceaaDoor
