/-
  The walks of spec.l01PickInt, spec.l01Once, spec.l04Text and spec.DrawUnits: a drawn unit has a few bytes, and does not end in 0.
-/
import Derived.Test.YtabpdiekmljceaaDoorDrawOwn
import Derived.Test.YtabpdiekmljceaaDoorUnitTexts
namespace Go.Proofs.YtabpdiekmljceaaDoor
open Go.RowKit
set_option linter.unusedVariables false

theorem code_grown {w w' : World} {B g : Nat} {a : Option Addr} {len : Nat} (hc : CodeRow w B a len) (hg : w.grownBy w' (some g)) (hB : B ≤ g) (hBw : B ≤ w.heap.size) : CodeRow w' B a len :=
  hc.below (below_of_grown hg hBw (fun j hj => by cases hj; exact hB))

set_option maxHeartbeats 400000 in
theorem once_any (g : Nat) (a : Option Addr) (len B : Nat) (n : Int) (w : World) (hc : CodeRow w B a len) (hB : B ≤ g) (hcur : CurAt w g a len) (h1 : 1 ≤ n) (h2 : n ≤ 4294967296) :
    Calls Tryd.prog 30 #[.pointer (some ⟨g, 0, none⟩), .int .i64 n] w fun e w' => ∃ b : Bool, e = .returned (.bool b) ∧ CurKept w w' g a len := by
  go_enter Tryd.func30, Tryd.ntmps30
  go_wp2_with (go_at_call 19; refine (below_any g a len B n _ hc hB hcur h1 h2).mono ?_; rintro e w1 ⟨x, rfl, hx0, hx1, hk⟩)
  go_ret
  exact ⟨_, rfl, hk⟩

set_option maxHeartbeats 400000 in
theorem pick_any (g h : Nat) (a : Option Addr) (len B n c : Nat) (w : World) (hc : CodeRow w B a len) (hB : B ≤ g) (hcur : CurAt w g a len) (h1 : 1 ≤ (n : Int)) (h2 : (n : Int) ≤ 1000) (hne : h ≠ g) (hh : h < w.heap.size)
    (hcell : ∀ j, j < n → ∃ z : Int, 0 ≤ z ∧ z ≤ 255 ∧ w.cell? ⟨h, j, none⟩ = some (.int .i64 z)) :
    Calls Tryd.prog 29 #[.pointer (some ⟨g, 0, none⟩), .slice (some ⟨h, 0, none⟩) n c] w fun e w' => ∃ x : Int, e = .returned (.int .i64 x) ∧ 0 ≤ x ∧ x ≤ 255 ∧ CurKept w w' g a len := by
  have HC : Hid (∀ j, j < n → ∃ z : Int, 0 ≤ z ∧ z ≤ 255 ∧ w.cell? ⟨h, j, none⟩ = some (.int .i64 z)) := hcell
  clear hcell
  go_enter Tryd.func29, Tryd.ntmps29
  go_wp2_with fail
  refine (below_any g a len B n _ hc hB hcur h1 (by omega)).mono ?_
  rintro e w1 ⟨x, rfl, hx0, hx1, hk⟩
  obtain ⟨y, rfl⟩ := Int.eq_ofNat_of_zero_le hx0
  obtain ⟨z, hz0, hz1, hz⟩ := HC.out y (by omega)
  have hz' : w1.cell? ⟨h, y, none⟩ = some (.int .i64 z) := hk.2.cell hz (by simpa using hne)
  clear hz
  go_wp2
  go_ret
  exact ⟨z, rfl, hz0, hz1, hk⟩

theorem curKept_alloc {w w1 w2 : World} {g : Nat} {a : Option Addr} {len : Nat} {o : Obj} (h : CurKept w w1 g a len) (k : CurKept (w1.alloc o) w2 g a len) : CurKept w w2 g a len :=
  ⟨k.1, (h.2.trans (World.grownBy_alloc w1 o (some g))).trans k.2⟩
/-- The list that bytes are picked of. -/
theorem picks {w : World} : ∀ j, j < 10 → ∃ z : Int, 0 ≤ z ∧ z ≤ 255 ∧ (w.alloc (.cells #[.int .i64 0, .int .i64 0, .int .i64 0, .int .i64 0, .int .i64 1, .int .i64 2, .int .i64 3, .int .i64 3, .int .i64 4, .int .i64 200] 3)).cell? ⟨w.heap.size, j, none⟩ = some (.int .i64 z) := by
  intro j hj
  rw [cell_of_row _ w.heap.size j _ 3 (0, 0) (heap_alloc_new w _)]
  have : ∀ j : Fin 10, ∃ z : Int, 0 ≤ z ∧ z ≤ 255 ∧ (#[Value.int .i64 0, .int .i64 0, .int .i64 0, .int .i64 0, .int .i64 1, .int .i64 2, .int .i64 3, .int .i64 3, .int .i64 4, .int .i64 200] : Array Value)[j.val]? = some (.int .i64 z) := by
    intro j
    match j with
    | ⟨0, _⟩ => exact ⟨0, by decide, by decide, rfl⟩
    | ⟨1, _⟩ => exact ⟨0, by decide, by decide, rfl⟩
    | ⟨2, _⟩ => exact ⟨0, by decide, by decide, rfl⟩
    | ⟨3, _⟩ => exact ⟨0, by decide, by decide, rfl⟩
    | ⟨4, _⟩ => exact ⟨1, by decide, by decide, rfl⟩
    | ⟨5, _⟩ => exact ⟨2, by decide, by decide, rfl⟩
    | ⟨6, _⟩ => exact ⟨3, by decide, by decide, rfl⟩
    | ⟨7, _⟩ => exact ⟨3, by decide, by decide, rfl⟩
    | ⟨8, _⟩ => exact ⟨4, by decide, by decide, rfl⟩
    | ⟨9, _⟩ => exact ⟨200, by decide, by decide, rfl⟩
  exact this ⟨j, hj⟩

set_option maxHeartbeats 1600000 in
theorem text_any (g : Nat) (a : Option Addr) (len B : Nat) (w : World) (hc : CodeRow w B a len) (hB : B ≤ g) (hcur : CurAt w g a len) :
    Calls Tryd.prog 20 #[.pointer (some ⟨g, 0, none⟩)] w fun e w' => ∃ l : List Int, e = .returned (.string (strOfNums l)) ∧ l.length ≤ 15 ∧ CurKept w w' g a len := by
  obtain ⟨i0, hi0, hz0, hz1, hz2⟩ := info_parts infoB
  have hgw := hcur.lt
  have hBw : B ≤ w.heap.size := by omega
  go_enter Tryd.func20, Tryd.ntmps20
  go_wp2
  go_loopw [3, 4] (fun v i wr => ∃ (k : Nat) (l : List Int), k ≤ 13 ∧ i = .int .i64 k ∧ l.length = k ∧ wr.ownsRow w.heap.size 5 1 v k (l.map (Value.int .u8)) ∧ CurAt wr g a len ∧ w.grownBy wr (some g))
    (fun _ i _ => 14 - (intOf i).toNat)
  case atStart => exact ⟨0, [], Nat.zero_le _, rfl, rfl, World.ownsRow_made w #[] 0 (Nat.le_refl _) (by unfold maxLen; omega) rfl, hcur.kept (World.grownBy_alloc w _ none) (by simp), World.grownBy_alloc w _ _⟩
  case round =>
    obtain ⟨k, l, hk, rfl, hll, hown, hcr, hgr⟩ := hrel
    have HL : Hid (l.length = k) := hll
    clear hll
    have hk13 : (k : Int) ≤ 13 := by omega
    have hsz0 := hgr.size
    go_wp2_with fail
    refine (below_any g a len B 14 _ (code_grown hc hgr hB hBw) hB hcr (by omega) (by omega)).mono ?_
    rintro e w1 ⟨x, rfl, hx0, hx1, hk1⟩
    have hown1 := own_cur hown hgw hk1
    have hgr1 := hgr.trans hk1.2
    have hcr1 := hk1.1
    have hsz1 := hgr1.size
    clear hown hcr hk1 hgr
    by_cases hlt : (k : Int) < x
    · go_wp2_with fail
      refine (pick_any g w1.heap.size a len B 10 10 _ (code_grown hc (hgr1.trans (World.grownBy_alloc w1 _ (some g))) hB hBw) hB (hcr1.kept (World.grownBy_alloc w1 _ none) (by simp)) (by omega) (by omega) (by have := hcr1.lt; omega) (by simp) picks).mono ?_
      rintro e w2 ⟨z, rfl, hz0', hz1', hk2⟩
      have hgr2 := (hgr1.trans (World.grownBy_alloc w1 _ (some g))).trans hk2.2
      have hown2 := own_cur (hown1.alloc _) hgw hk2
      have hsz2 := hgr2.size
      go_wp2_with (at_builtin; refine wpList_append_lies _ (by rfl) _ _ 22 (by rfl) w.heap.size 5 i0 (.int .u8 0) 1 1 Tryd.underlying22 hi0 hz0 hz1 hz2 rfl (by omega) u3 k _ (by rfl) (hown2.alloc _) ⟨w2.heap.size, 0, none⟩ 1 1 [.int .u8 z] (by rfl) (by rfl) (World.news_of_block (cs := #[.int .u8 z]) (t := 5) (fr := (0, 0)) (heap_alloc_new w2 _)) (by simp [Value.oneCell']) (by omega) (by unfold maxLen; omega) (by omega) (by simp <;> omega) (w2.heap.size + 1) (by simp) ?_; intro gg cp w3 hown3 hgrow hat hlt2)
      have R := cur_append (v' := u3) (ys := []) (m := 0) hgr2 hown2 hgw (⟨hk2.1, World.grownBy.refl _ _⟩ : CurKept w2 w2 g a len) hgrow
      have hown4 : w3.ownsRow w.heap.size 5 1 (.slice (some ⟨gg, 0, none⟩) (k + 1) cp) (k + 1) ((l ++ [z]).map (Value.int .u8)) := by simpa using hown3
      clear hown3 hgrow hat hlt2 hown1 hown2 hk2 hgr1 hcr1 hgr2
      go_roundw
      case rel => exact ⟨k + 1, l ++ [z], by omega, by go_num, by have := HL.out; simp; omega, hown4, R.1, R.2⟩
      case measure => simp [intOf]; omega
    · go_wp2_with fail
      refine (once_any g a len B 8 _ (code_grown hc hgr1 hB hBw) hB hcr1 (by omega) (by omega)).mono ?_
      rintro e w2 ⟨b, rfl, hk2⟩
      have hgr2 := hgr1.trans hk2.2
      have hown2 := own_cur hown1 hgw hk2
      have hcr2 := hk2.1
      have hsz2 := hgr2.size
      clear hown1 hcr1 hk2 hgr1
      cases b
      · go_wp2_with fail
        refine (below_any g a len B 5 _ (code_grown hc hgr2 hB hBw) hB hcr2 (by omega) (by omega)).mono ?_
        rintro e w3 ⟨y, rfl, hy0, hy1, hk3⟩
        have hgr3 := hgr2.trans hk3.2
        have hown3 := own_cur hown2 hgw hk3
        have hsz3 := hgr3.size
        have hy2 : y + 1 ≤ 255 := by omega
        go_wp2_with (at_builtin; refine wpList_append_lies _ (by rfl) _ _ 22 (by rfl) w.heap.size 5 i0 (.int .u8 0) 1 1 Tryd.underlying22 hi0 hz0 hz1 hz2 rfl (by omega) u3 k _ (by rfl) (hown3.alloc _) ⟨w3.heap.size, 0, none⟩ 1 1 [.int .u8 (1 + y)] (by rfl) (by rfl) (World.news_of_block (cs := #[.int .u8 (1 + y)]) (t := 5) (fr := (0, 0)) (heap_alloc_new w3 _)) (by simp [Value.oneCell']) (by omega) (by unfold maxLen; omega) (by omega) (by simp <;> omega) (w3.heap.size + 1) (by simp) ?_; intro gg cp w4 hown4 hgrow hat hlt2; have R := cur_append (v' := u3) (ys := []) (m := 0) hgr3 hown3 hgw (⟨hk3.1, World.grownBy.refl _ _⟩ : CurKept w3 w3 g a len) hgrow; have hown5 : w4.ownsRow w.heap.size 5 1 (.slice (some ⟨gg, 0, none⟩) (k + 1) cp) (k + 1) ((l ++ [1 + y]).map (Value.int .u8)) := (by simpa using hown4); have hconv := convD hown5)
        go_ret
        exact ⟨_, rfl, by have := HL.out; simp; omega, R.1, R.2⟩
      · have hconv := convD hown2
        go_wp2
        go_ret
        exact ⟨l, rfl, by have := HL.out; omega, hcr2, hgr2⟩

/-- A text that can be escaped, and is short. -/
def UnitOk (x : ByteArray) : Prop := escOk (nums x) = true ∧ x.size ≤ 16
theorem unitOk_of {s : ByteArray} (h : s.size ≤ 15) : UnitOk (s ++ ⟨#[97]⟩) := by
  have e : nums (s ++ ⟨#[97]⟩) = nums s ++ [97] := nums_append s _
  have hs : (s ++ ⟨#[97]⟩ : ByteArray).size = s.size + 1 := by rw [← nums_length, e, List.length_append, nums_length]; rfl
  refine ⟨?_, by omega⟩
  unfold escOk
  rw [e, getD_last]
  simp [nums_length]
  omega
set_option maxHeartbeats 1600000 in
theorem drawUnits_some (a : Option Addr) (len cap B : Nat) (w : World) (hc : CodeRow w B a len) (hB : B ≤ w.heap.size) :
    Calls Tryd.prog 7 #[.slice a len cap] w fun e w' => ∃ (gv cv : Nat) (xs : List ByteArray), e = .returned (.slice (some ⟨gv, 0, none⟩) xs.length cv) ∧ xs.length ≤ 4 ∧ (∀ x ∈ xs, UnitOk x) ∧ w'.ownsRow w.heap.size 9 1 (.slice (some ⟨gv, 0, none⟩) xs.length cv) xs.length (xs.map Value.string) ∧ Below w.heap.size w w' := by
  obtain ⟨i0, hi0, hz0, hz1, hz2⟩ := info_parts infoS
  go_enter Tryd.func7, Tryd.ntmps7
  go_wp2_with fail
  refine (new_cur a len cap B _ hc hB).mono ?_
  rintro e w1 ⟨rfl, hcur1, hb1⟩
  have hc1 := hc.below (hb1.mono hB)
  have hs1 := hb1.size
  have hgw := hcur1.lt
  have hBw : B ≤ w1.heap.size := by omega
  go_wp2
  go_loopw [4, 5] (fun v i wr => ∃ (k gv cv : Nat) (xs : List ByteArray), v = .slice (some ⟨gv, 0, none⟩) k cv ∧ k ≤ 4 ∧ i = .int .i64 k ∧ xs.length = k ∧ (∀ x ∈ xs, UnitOk x) ∧ wr.ownsRow w1.heap.size 9 1 (.slice (some ⟨gv, 0, none⟩) k cv) k (xs.map Value.string) ∧ CurAt wr w.heap.size a len ∧ w1.grownBy wr (some w.heap.size))
    (fun _ i _ => 5 - (intOf i).toNat)
  case atStart => exact ⟨0, _, _, [], rfl, Nat.zero_le _, rfl, rfl, (fun x hx => by cases hx), World.ownsRow_made w1 #[] 0 (Nat.le_refl _) (by unfold maxLen; omega) rfl, hcur1.kept (World.grownBy_alloc w1 _ none) (by simp), World.grownBy_alloc w1 _ _⟩
  case round =>
    obtain ⟨k, gv, cv, xs, rfl, hk, rfl, hll, hls, hown, hcr, hgr⟩ := hrel
    have HL : Hid (xs.length = k) := hll
    have HS : Hid (∀ x ∈ xs, UnitOk x) := hls
    clear hll hls
    have hk4 : (k : Int) ≤ 4 := by omega
    have hsz0 := hgr.size
    go_wp2_with fail
    refine (below_any w.heap.size a len B 5 _ (code_grown hc1 hgr hB hBw) hB hcr (by omega) (by omega)).mono ?_
    rintro e w2 ⟨x, rfl, hx0, hx1, hk1⟩
    have hown1 := own_cur hown hgw hk1
    have hgr1 := hgr.trans hk1.2
    have hcr1 := hk1.1
    have hsz1 := hgr1.size
    clear hown hcr hk1 hgr
    by_cases hlt : (k : Int) < x
    · go_wp2_with fail
      refine (text_any w.heap.size a len B _ (code_grown hc1 hgr1 hB hBw) hB hcr1).mono ?_
      rintro e w3 ⟨l, rfl, hl15, hk2⟩
      have hgr2 := hgr1.trans hk2.2
      have hown2 := own_cur hown1 hgw hk2
      have hsz2 := hgr2.size
      have hts : (strOfNums l).size ≤ 15 := by rw [strOfNums_size]; exact hl15
      generalize strOfNums l = s at *
      have hcat : ¬ 9223372036854775807 < s.size + (⟨#[97]⟩ : ByteArray).size := by show ¬ 9223372036854775807 < s.size + 1; omega
      go_wp2_with (at_builtin; refine wpList_append_lies _ (by rfl) _ _ 24 (by rfl) w1.heap.size 9 i0 (.string ByteArray.empty) 1 16 Tryd.underlying24 hi0 hz0 hz1 hz2 rfl (by omega) _ k _ (by rfl) (hown2.alloc _) ⟨w3.heap.size, 0, none⟩ 1 1 [.string (s ++ ⟨#[97]⟩)] (by rfl) (by rfl) (World.news_of_block (cs := #[.string (s ++ ⟨#[97]⟩)]) (t := 9) (fr := (0, 0)) (heap_alloc_new w3 _)) (by simp [Value.oneCell']) (by omega) (by unfold maxLen; omega) (by omega) (by simp <;> omega) (w3.heap.size + 1) (by simp) ?_; intro gg cp w4 hown3 hgrow hat hlt2)
      have R := cur_append (v' := .nilFunc) (ys := []) (m := 0) hgr2 hown2 hgw (⟨hk2.1, World.grownBy.refl _ _⟩ : CurKept w3 w3 w.heap.size a len) hgrow
      have hown4 : w4.ownsRow w1.heap.size 9 1 (.slice (some ⟨gg, 0, none⟩) (k + 1) cp) (k + 1) ((xs ++ [s ++ ⟨#[97]⟩]).map Value.string) := by simpa using hown3
      clear hown3 hgrow hat hlt2 hown1 hown2 hk2 hgr1 hcr1 hgr2
      go_roundw
      case rel => exact ⟨k + 1, gg, cp, xs ++ [s ++ ⟨#[97]⟩], rfl, by omega, by go_num, by have := HL.out; simp; omega, fun y hy => by
        rcases List.mem_append.1 hy with h | h
        · exact HS.out y h
        · rw [List.mem_singleton.1 h]; exact unitOk_of hts, hown4, R.1, R.2⟩
      case measure => simp [intOf]; omega
    · have hb2 : Below w.heap.size w w2 := hb1.trans (below_of_grown hgr1 (by omega) (fun j hj => by cases hj; exact Nat.le_refl _))
      go_wp2
      go_ret
      refine ⟨gv, cv, xs, by rw [HL.out]; rfl, by rw [HL.out]; exact hk, HS.out, ?_, hb2⟩
      rw [HL.out]
      refine ⟨hown1.1, ?_⟩
      rcases hown1.2 with h | ⟨g', c', cur, h1, h2, h3⟩
      · exact .inl h
      · exact .inr ⟨g', c', cur, h1, Nat.le_trans hs1 h2, h3⟩
theorem drawUnits_any (a : Option Addr) (len cap B : Nat) (w : World) (hc : CodeRow w B a len) (hB : B ≤ w.heap.size) :
    Calls Tryd.prog 7 #[.slice a len cap] w fun e w' => ∃ (v : Value) (xs : List ByteArray), e = .returned v ∧ xs.length ≤ 4 ∧ (∀ x ∈ xs, UnitOk x) ∧ w'.ownsRow w.heap.size 9 1 v xs.length (xs.map Value.string) ∧ Below w.heap.size w w' :=
  (drawUnits_some a len cap B w hc hB).mono fun e w' ⟨gv, cv, xs, h1, h2⟩ => ⟨_, xs, h1, h2⟩
end Go.Proofs.YtabpdiekmljceaaDoor
