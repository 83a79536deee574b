/-
  The walk of laws.FnSquares: drawn squares come back from their rows, wherever these stand, as long as is told.
-/
import Derived.Test.YtnlbigjfnjcldaaGreatSquaresDraw
import Derived.Test.YtnlbigjfnjcldaaGreatSquareSpec
import Derived.Test.YtnlbigjfnjcldaaGreatSquareReads
import Derived.Test.YtnlbigjfnjcldaaGreatDrawAll
import Derived.Deep.RegionHeld3
import Derived.Deep.CutRange
namespace Go.Proofs.YtnlbigjfnjcldaaGreat
open Go.RowKit
set_option linter.unusedVariables false
set_option maxRecDepth 20000

set_option maxHeartbeats 1600000 in
theorem sameSquare_any (kd md dx dy : Int) (a1 a2 : Option Addr) (c1 c2 : Nat) (xs : List Int) (w : World) (h1 : Ints w a1 xs) (h2 : Ints w a2 xs) (hx : xs.length ≤ 2000000) :
    Calls Tryz.prog 12 #[sqV kd md dx dy a1 xs.length c1, sqV kd md dx dy a2 xs.length c2] w fun e w' => e = .returned (.bool true) ∧ Below w.heap.size w w' := by
  have hb0 := ((Below.refl w.heap.size w).alloc (Nat.le_refl _) (.cells (sqC kd md dx dy a1 xs.length c1) 34)).alloc (by simp) (.cells (sqC kd md dx dy a2 xs.length c2) 34)
  have CM : Hid (∀ w', Below w.heap.size w w' → Calls Tryz.prog 35 #[.slice a1 xs.length c1, .slice a2 xs.length c2] w' fun e w'' => e = .returned (.bool true) ∧ Below w'.heap.size w' w'') := fun w' hb => sameInts_any a1 a2 c1 c2 xs w' (h1.below hb (Nat.le_refl _)) (h2.below hb (Nat.le_refl _)) hx
  clear h1 h2 hx
  generalize xs.length = n at *
  go_enter Tryz.func12, Tryz.ntmps12
  go_wp2_with (go_at_call 35; refine (CM.out _ hb0).mono ?_; rintro e w1 ⟨rfl, hc⟩)
  go_ret
  exact ⟨rfl, hb0.trans (hc.mono hb0.size)⟩

theorem signs_none : Signs (nums (⟨#[]⟩ : ByteArray)) := fun x hx => by
  have : nums (⟨#[]⟩ : ByteArray) = [] := rfl
  rw [this] at hx
  cases hx
theorem lvS_signs {g x : Bool} {xs : List Int} (h : sqB 5000 xs = true) : Signs (nums (lvS g x xs)) := by
  obtain ⟨hl, hin⟩ := sqB_iff.1 h
  unfold lvS
  rcases lr_cases g x with ⟨h1, h2, _⟩ | ⟨h1, h2, _⟩
  · rw [h1, h2]; exact acc_signs (.inl rfl) hl hin 4 (by omega)
  · rw [h1, h2]; exact acc_signs (.inr rfl) hl hin 1 (by omega)
theorem ueS_signs (n : Int) : Signs (nums (ueS n)) := by rw [ueS_nums]; exact ueL_signs n
theorem sqS_signs {key g x : Bool} {kd md dx dy : Int} {xs : List Int} (h : sqOkB kd md dx dy xs = true) : Signs (nums (sqS key g x kd md dx dy xs)) := by
  have hK : Signs (nums (if key = true then (⟨#[]⟩ : ByteArray) else ueS kd)) := by
    split
    · exact signs_none
    · exact ueS_signs kd
  unfold sqS
  rw [nums_append]
  refine hK.append ?_
  rcases sqOk_cases h with ⟨rfl, _⟩ | ⟨rfl, _, _, _, hq⟩ | ⟨rfl, _, _, _, hq⟩
  · exact signs_none
  · rw [if_pos rfl, nums_append, nums_append]
    exact ((ueS_signs _).append (ueS_signs _)).append (lvS_signs hq)
  · rw [if_neg (by decide), if_pos rfl, nums_append]
    exact (ueS_signs _).append (lvS_signs hq)
theorem sqS_le {key g x : Bool} {kd md dx dy : Int} {xs : List Int} (h : sqOkB kd md dx dy xs = true) : (sqS key g x kd md dx dy xs).size ≤ 21000 := by
  have hkd : 0 ≤ kd ∧ kd ≤ 2 := by rcases sqOk_cases h with h | h | h <;> omega
  have h1 := kdS_le key hkd.1 hkd.2
  rw [sqS_parts, ByteArray.size_append]
  have h2 : (tlS g x kd md dx dy xs).size ≤ 20900 := by
    rcases sqOk_cases h with ⟨rfl, _⟩ | ⟨rfl, _⟩ | ⟨rfl, _⟩
    · exact tlS_0_le g x h
    · exact tlS_1_le g x h
    · exact tlS_2_le g x h
  omega
theorem sqOk_len {kd md dx dy : Int} {xs : List Int} (h : sqOkB kd md dx dy xs = true) : xs.length ≤ 64 := by
  rcases sqOk_cases h with ⟨_, _, _, _, rfl⟩ | ⟨_, _, _, _, hq⟩ | ⟨_, _, _, _, hq⟩
  · exact Nat.zero_le _
  · exact Nat.le_of_eq (sqB_iff.1 hq).1
  · exact Nat.le_of_eq (sqB_iff.1 hq).1

/-- The cells of a list of squares. -/
theorem squares_cells {w : World} {B : Nat} {v : Value} {ts : List SqT} (h : w.ownsRow B 34 5 v ts.length (sqsC ts)) (hn : 1 ≤ ts.length) :
    ∃ gl cp, v = .slice (some ⟨gl, 0, none⟩) ts.length cp ∧ gl < w.heap.size ∧ B ≤ gl ∧ Hid (∀ j t, ts[j]? = some t → w.cell? ⟨gl, j * 5, none⟩ = some (.int .i64 t.kd) ∧ w.cell? ⟨gl, j * 5 + 1, none⟩ = some (.int .i64 t.md) ∧ w.cell? ⟨gl, j * 5 + 2, none⟩ = some (.int .i64 t.dx) ∧ w.cell? ⟨gl, j * 5 + 3, none⟩ = some (.int .i64 t.dy) ∧ w.cell? ⟨gl, j * 5 + 4, none⟩ = some (.slice t.a t.xs.length t.c)) := by
  obtain ⟨gl, cp, rfl, h1, h2⟩ := h.form (by omega)
  have hlt := h.lt gl rfl
  refine ⟨gl, cp, rfl, hlt.2, hlt.1, fun j t ht => ?_⟩
  have hj : j < ts.length := by
    rcases Nat.lt_or_ge j ts.length with hj | hj
    · exact hj
    · rw [List.getElem?_eq_none hj] at ht; cases ht
  have c : ∀ i, i < 5 → w.cell? ⟨gl, j * 5 + i, none⟩ = t.cells[i]? := fun i hi => by
    rw [h.cellAt (j * 5 + i) (by omega), sqsC_get ts j i t ht hi]
  exact ⟨c 0 (by omega), c 1 (by omega), c 2 (by omega), c 3 (by omega), c 4 (by omega)⟩

set_option maxHeartbeats 6400000 in
theorem fnSquares_walk (a : Option Addr) (len cap : Nat) (w : World) (hcode : CodeIn w a len cap) :
    Calls Tryz.prog 3 #[.slice a len cap] w fun e w' => e = .returned (.bool true) ∧ Below w.heap.size w w' := by
  obtain ⟨hlen, hnil, hrow⟩ := hcode
  obtain ⟨zs, hzl, hcv⟩ := codeV_of hrow
  have CD : Hid (Calls Tryz.prog 8 #[.slice a len cap] w fun e w' => ∃ (ts : List SqT) (k : Bool) (q : Int) (g x : Bool), (∃ v, e = .returned (.tuple #[v, conV k q g x]) ∧ w'.ownsRow w.heap.size 34 5 v ts.length (sqsC ts)) ∧ parB q g x = true ∧ 1 ≤ ts.length ∧ ts.length ≤ 4 ∧ (∀ t ∈ ts, SqGood w' w.heap.size k t) ∧ Below w.heap.size w w') := by
    have := drawSquares_any a cap w.heap.size zs w hcv (by rw [hzl]; exact hrow) (Nat.le_refl _)
    rwa [hzl] at this
  have CA : Hid (∀ w', Below w.heap.size w w' → Calls Tryz.prog 9 #[.slice a len cap] w' fun e w'' => (∃ A : ByteArray, e = .returned (.string A) ∧ A.size ≤ 60 ∧ Signs (nums A)) ∧ Below w'.heap.size w' w'') := fun w' hb => by
    refine (drawRow_any a len cap w.heap.size w' (hrow.below hb) hb.size).mono ?_
    rintro e w'' ⟨la, rfl, hla, hsa, hc⟩
    have hs : Signs la := fun x hx => by have := hsa x hx; omega
    exact ⟨⟨_, rfl, by rw [sizeS]; exact hla, by rw [nums_of _ hs.bd]; exact hs⟩, hc⟩
  clear hcv hrow hzl hnil
  go_enter Tryz.func3, Tryz.ntmps3
  go_wp2_with fail
  refine (big_any a len cap w hlen).mono ?_
  rintro e w0 ⟨rfl, hw⟩
  subst w0
  go_wp2_with fail
  refine CD.out.mono ?_
  rintro e w1 ⟨ts, k, q, g, x, ⟨v, rfl, hown⟩, hp, hn1, hn4, hgd, hb1⟩
  obtain ⟨gl, cp, rfl, hgl, _, HL⟩ := squares_cells hown hn1
  have HG : Hid (∀ t ∈ ts, SqGood w1 w.heap.size k t) := hgd
  have HP : Hid (parB q g x = true) := hp
  clear CD hown hlen hgd hp
  go_wp2_with fail
  have bC := Blk.new w1 #[.bool k, .int .i64 q, .bool g, .bool x] 26
  have hcC := (Below.refl w1.heap.size w1).alloc (Nat.le_refl _) (.cells #[.bool k, .int .i64 q, .bool g, .bool x] 26)
  generalize w1.alloc (.cells #[.bool k, .int .i64 q, .bool g, .bool x] 26) = W0 at *
  refine (CA.out W0 (hb1.trans (hcC.mono hb1.size))).mono ?_
  rintro e W1 ⟨⟨A, rfl, hA1, hA2⟩, hc⟩
  have bC1 := bC.below hc bC.lt
  have hc1 : Below w1.heap.size w1 W1 := hcC.trans (hc.mono (Nat.le_of_lt bC.lt))
  have HA : Hid (Signs (nums A)) := hA2
  clear hc bC hcC CA hA2
  have hbW : Below w.heap.size w W1 := hb1.trans (hc1.mono hb1.size)
  generalize hgc : w1.heap.size = gC at *
  -- what the rounds want of the list
  have HLL : Hid (∀ (j : Nat) (t : SqT), ts[j]? = some t → sqOkB t.kd t.md t.dx t.dy t.xs = true ∧ (k = true → t.kd = 2) ∧ t.xs.length ≤ t.c ∧ ∀ U, Below W1.heap.size W1 U → ((U.cell? ⟨gl, j * 5, none⟩ = some (.int .i64 t.kd) ∧ U.cell? ⟨gl, j * 5 + 1, none⟩ = some (.int .i64 t.md) ∧ U.cell? ⟨gl, j * 5 + 2, none⟩ = some (.int .i64 t.dx) ∧ U.cell? ⟨gl, j * 5 + 3, none⟩ = some (.int .i64 t.dy) ∧ U.cell? ⟨gl, j * 5 + 4, none⟩ = some (.slice t.a t.xs.length t.c)) ∧ (U.cell? ⟨gC, 0, none⟩ = some (.bool k) ∧ U.cell? ⟨gC, 1, none⟩ = some (.int .i64 q) ∧ U.cell? ⟨gC, 2, none⟩ = some (.bool g) ∧ U.cell? ⟨gC, 3, none⟩ = some (.bool x))) ∧ Ints U t.a t.xs) := fun j t ht => by
    have hm : t ∈ ts := List.mem_of_getElem? ht
    have hg := HG.out t hm
    refine ⟨hg.ok, hg.key, owned_cap hg.own, fun U hU => ?_⟩
    have hU1 : Below gC w1 U := hc1.trans (hU.mono (Nat.le_of_lt bC1.lt))
    obtain ⟨c0, c1, c2, c3, c4⟩ := HL.out j t ht
    have e : ∀ i, U.cell? ⟨gl, i, none⟩ = w1.cell? ⟨gl, i, none⟩ := fun i => hU1.cell (p := ⟨gl, i, none⟩) hgl
    exact ⟨⟨⟨(e _).trans c0, (e _).trans c1, (e _).trans c2, (e _).trans c3, (e _).trans c4⟩, (bC1.below hU bC1.lt).four.1⟩, (owned_at hg.own).below hU1 (by omega)⟩
  clear HL HG hc1 hb1 hgl hgc bC1
  have HT : Hid (∀ j, j < ts.length → ∃ t, ts[j]? = some t) := fun j hj => ⟨_, List.getElem?_eq_getElem hj⟩
  generalize ts.length = n at *
  have n1 : (1 : Int) ≤ (n : Int) := by omega
  have n4 : (n : Int) ≤ 4 := by omega
  go_wp2_with fail
  go_loopw [6] (fun i wr => ∃ j : Nat, j ≤ n ∧ i = .int .i64 (j : Int) ∧ Below W1.heap.size W1 wr) (fun i _ => n - (intOf i).toNat)
  case atStart => exact ⟨0, Nat.zero_le _, rfl, Below.refl _ _⟩
  case round =>
    obtain ⟨j, hj, rfl, hb⟩ := hrel
    have l0 : (0 : Int) ≤ (j : Int) := by omega
    by_cases hlt : j < n
    · have l1 : (j : Int) < (n : Int) := by omega
      obtain ⟨t, ht⟩ := HT.out j hlt
      obtain ⟨kd, md, dx, dy, la, lc, xs⟩ := t
      obtain ⟨hok, hkey, hcap, hU⟩ := HLL.out j _ ht
      dsimp only at hok hkey hcap hU
      have hx64 := sqOk_len hok
      have hsr : srB k q g x kd md dx dy xs = true := by
        unfold srB
        rw [hok, HP.out]
        cases k
        · rfl
        · rw [hkey rfl]; rfl
      have hss : srS k q g x kd md dx dy xs = sqS k g x kd md dx dy xs := if_pos hsr
      have hsg := sqS_signs (key := k) (g := g) (x := x) hok
      have hsz := sqS_le (key := k) (g := g) (x := x) hok
      have hput : ∀ (s Q : ByteArray) (F : Nat → Option (Int × Nat)), IsCnt s F → rowOkB s = true → s = A ++ sqS k g x kd md dx dy xs ++ Q → sqR F k g x A.size = some ((kd, md, dx, dy, xs), A.size + (sqS k g x kd md dx dy xs).size) := fun s Q F hF hr hs => sq_put hF hr hok hkey hs
      generalize sqS k g x kd md dx dy xs = S at *
      have C1 : Hid (∀ U, Ints U la xs → Calls Tryz.prog 10 #[sqV kd md dx dy la xs.length lc, conV k q g x] U fun e U' => e = .returned (.tuple #[.string S, .bool true]) ∧ Below U.heap.size U U') := fun U hi => by
        have := implSquareRow kd md dx dy la lc xs k q g x U hi (Nat.le_trans hx64 (by decide)) hcap
        rwa [hsr, hss] at this
      have C3 : Hid (∀ U, Ints U la xs → Calls Tryz.prog 13 #[sqV kd md dx dy la xs.length lc, conV k q g x] U fun e U' => e = .returned (.int .i64 (S.size : Int)) ∧ Below U.heap.size U U') := fun U hi => by
        have := implSquareSize kd md dx dy la lc xs k q g x U hi (Nat.le_trans hx64 (by decide)) hcap
        rwa [hss] at this
      have hRow : rowOkB (A ++ S ++ ⟨#[48]⟩) = true := by
        refine rowOkB_of _ ?_ ?_
        · rw [ByteArray.size_append, ByteArray.size_append]
          have h3 : (⟨#[48]⟩ : ByteArray).size = 1 := rfl
          omega
        · rw [nums_append, nums_append]
          exact (HA.out.append hsg).append (fun x hx => by
            have : nums (⟨#[48]⟩ : ByteArray) = [48] := rfl
            rw [this] at hx
            simp at hx
            exact .inl hx)
      have C4 : Hid (∀ U, Calls Tryz.prog 11 #[.string (A ++ S ++ ⟨#[48]⟩), .int .i64 (A.size : Int), conV k q g x] U fun e U' => (∃ p c, e = .returned (.tuple #[sqV kd md dx dy p xs.length c, .int .i64 ((A.size : Int) + (S.size : Int)), .bool true]) ∧ Ints U' p xs) ∧ Below U.heap.size U U') := fun U => by
        obtain ⟨F, hF⟩ := isCnt_exists (A ++ S ++ ⟨#[48]⟩)
        have hpl : placeB (A ++ S ++ ⟨#[48]⟩) (A.size : Int) = true := placeB_yes _ _ (by rw [ByteArray.size_append, ByteArray.size_append]; omega) hRow
        have h1 := implReadSquare hF (A.size : Int) k q g x U (by
          have := (rowOkB_true _ hRow).1
          unfold maxLen
          omega)
        rw [rqSt_yes hpl HP.out, hput _ _ F hF hRow rfl] at h1
        refine h1.mono ?_
        rintro e U' ⟨⟨p, c, rfl, ho⟩, hb⟩
        refine ⟨⟨p, c, ?_, owned_at (xs := xs) ho⟩, hb⟩
        show Ending.returned (.tuple #[sqV kd md dx dy p xs.length c, .int .i64 ((A.size + S.size : Nat) : Int), .bool true]) = _
        rw [Int.natCast_add]
      have C5 : Hid (∀ (p : Option Addr) (c : Nat) U, Ints U p xs → Ints U la xs → Calls Tryz.prog 12 #[sqV kd md dx dy p xs.length c, sqV kd md dx dy la xs.length lc] U fun e U' => e = .returned (.bool true) ∧ Below U.heap.size U U') := fun p c U h1 h2 => sameSquare_any kd md dx dy p la c lc xs U h1 h2 (by omega)
      have C6 : Hid (∀ (p : Option Addr) (c : Nat) U, Ints U p xs → Calls Tryz.prog 14 #[sqV kd md dx dy p xs.length c] U fun e U' => e = .returned (.bool true) ∧ Below U.heap.size U U') := fun p c U h1 => by
        have := implSquareOk kd md dx dy p c xs U h1 (Nat.le_trans hx64 (by decide))
        rwa [hok] at this
      have s21 : S.size ≤ 21000 := hsz
      have HU : Hid (∀ U, Below W1.heap.size W1 U → ((U.cell? ⟨gl, j * 5, none⟩ = some (.int .i64 kd) ∧ U.cell? ⟨gl, j * 5 + 1, none⟩ = some (.int .i64 md) ∧ U.cell? ⟨gl, j * 5 + 2, none⟩ = some (.int .i64 dx) ∧ U.cell? ⟨gl, j * 5 + 3, none⟩ = some (.int .i64 dy) ∧ U.cell? ⟨gl, j * 5 + 4, none⟩ = some (.slice la xs.length lc)) ∧ (U.cell? ⟨gC, 0, none⟩ = some (.bool k) ∧ U.cell? ⟨gC, 1, none⟩ = some (.int .i64 q) ∧ U.cell? ⟨gC, 2, none⟩ = some (.bool g) ∧ U.cell? ⟨gC, 3, none⟩ = some (.bool x))) ∧ Ints U la xs) := hU
      clear hok hkey hcap hU hx64 hsr hss hsg hsz hput hRow ht
      obtain ⟨⟨⟨x0, x1, x2, x3, x4⟩, y0, y1, y2, y3⟩, hi⟩ := HU.out wr hb
      go_wp2_with fail
      go_cut [7, 8] from 27 to 35 (fun u v wc => u = .string S ∧ v = .bool true ∧ Below W1.heap.size W1 wc)
      case first =>
        have hiD : Ints wr.drew la xs := hi
        have hbD := hb.drew
        go_region_held3 (fun w' => (w'.cell? ⟨gl, j * 5, none⟩ = some (.int .i64 kd) ∧ w'.cell? ⟨gl, j * 5 + 1, none⟩ = some (.int .i64 md) ∧ w'.cell? ⟨gl, j * 5 + 2, none⟩ = some (.int .i64 dx) ∧ w'.cell? ⟨gl, j * 5 + 3, none⟩ = some (.int .i64 dy) ∧ w'.cell? ⟨gl, j * 5 + 4, none⟩ = some (.slice la xs.length lc)) ∧ (w'.cell? ⟨gC, 0, none⟩ = some (.bool k) ∧ w'.cell? ⟨gC, 1, none⟩ = some (.int .i64 q) ∧ w'.cell? ⟨gC, 2, none⟩ = some (.bool g) ∧ w'.cell? ⟨gC, 3, none⟩ = some (.bool x)))
          (first | (with_reducible exact hS) | go_keep)
          ((go_at_call 10; refine (C1.out _ hiD).mono ?_; rintro e wA ⟨rfl, hc⟩; have hbA := hbD.trans (hc.mono hbD.size); have hS := (HU.out wA hbA).1))
        all_goals
          go_wp2_with fail
          go_meet
          exact ⟨rfl, rfl, hbA⟩
      case rest =>
      obtain ⟨rfl, rfl, hb2⟩ := hcut
      clear x0 x1 x2 x3 x4 y0 y1 y2 y3 hi C1 hb
      generalize wc = W2 at *
      obtain ⟨⟨_, y0, y1, y2, y3⟩, _⟩ := HU.out W2 hb2
      have c1 : ¬ 9223372036854775807 < A.size + S.size := by omega
      have c2 : ¬ 9223372036854775807 < A.size + S.size + 1 := by omega
      have c3 : ¬ 9223372036854775807 < (A ++ S).size + (⟨#[48]⟩ : ByteArray).size := by
        rw [ByteArray.size_append]
        have h3 : (⟨#[48]⟩ : ByteArray).size = 1 := rfl
        omega
      go_wp2_with fail
      refine (C4.out W2).mono ?_
      rintro e W3 ⟨⟨pq, cq, rfl, iq⟩, hc⟩
      have hb3 := hb2.trans (hc.mono hb2.size)
      clear hc hb2 c1 c2 c3 y0 y1 y2 y3 C4
      have A3 := (Below.refl W3.heap.size W3).alloc (Nat.le_refl _) (.cells (sqC kd md dx dy pq xs.length cq) 34)
      have X3 : Blk (W3.alloc (.cells (sqC kd md dx dy pq xs.length cq) 34)) W3.heap.size _ _ := Blk.new W3 _ _
      have hb4 := hb3.trans (A3.mono hb3.size)
      have iq4 := iq.below A3 (Nat.le_refl _)
      clear A3 iq hb3
      go_wp2_with fail
      generalize W3.alloc _ = V at *
      generalize W3.heap.size = gQ at *
      have HV : Hid (∀ U, Below V.heap.size V U → ((U.cell? ⟨gQ, 0, none⟩ = some (.int .i64 kd) ∧ U.cell? ⟨gQ, 1, none⟩ = some (.int .i64 md) ∧ U.cell? ⟨gQ, 2, none⟩ = some (.int .i64 dx) ∧ U.cell? ⟨gQ, 3, none⟩ = some (.int .i64 dy) ∧ U.cell? ⟨gQ, 4, none⟩ = some (.slice pq xs.length cq)) ∧ (U.cell? ⟨gl, j * 5, none⟩ = some (.int .i64 kd) ∧ U.cell? ⟨gl, j * 5 + 1, none⟩ = some (.int .i64 md) ∧ U.cell? ⟨gl, j * 5 + 2, none⟩ = some (.int .i64 dx) ∧ U.cell? ⟨gl, j * 5 + 3, none⟩ = some (.int .i64 dy) ∧ U.cell? ⟨gl, j * 5 + 4, none⟩ = some (.slice la xs.length lc)) ∧ (U.cell? ⟨gC, 0, none⟩ = some (.bool k) ∧ U.cell? ⟨gC, 1, none⟩ = some (.int .i64 q) ∧ U.cell? ⟨gC, 2, none⟩ = some (.bool g) ∧ U.cell? ⟨gC, 3, none⟩ = some (.bool x))) ∧ Ints U pq xs ∧ Ints U la xs ∧ Below W1.heap.size W1 U) := fun U h => by
        have h2 := hb4.trans (h.mono hb4.size)
        obtain ⟨⟨a1, a2⟩, a3⟩ := HU.out U h2
        exact ⟨⟨(X3.below h X3.lt).five.1, a1, a2⟩, iq4.below h (Nat.le_refl _), a3, h2⟩
      have hsum : IntKind.i64.wrap ((A.size : Int) + (S.size : Int)) = (A.size : Int) + (S.size : Int) := IntWalk.i64_in _ ⟨by omega, by omega⟩
      clear X3 iq4 hb4 HU
      obtain ⟨⟨⟨q0, q1, q2, q3, q4⟩, ⟨x0, x1, x2, x3, x4⟩, y0, y1, y2, y3⟩, j1, j2, _⟩ := HV.out V (Below.refl _ _)
      have hbu : Below V.heap.size V V.drew := (Below.refl _ _).drew
      have J1 : Ints V.drew pq xs := j1
      have J2 : Ints V.drew la xs := j2
      clear j1 j2
      go_region_held3 (fun w' => (w'.cell? ⟨gQ, 0, none⟩ = some (.int .i64 kd) ∧ w'.cell? ⟨gQ, 1, none⟩ = some (.int .i64 md) ∧ w'.cell? ⟨gQ, 2, none⟩ = some (.int .i64 dx) ∧ w'.cell? ⟨gQ, 3, none⟩ = some (.int .i64 dy) ∧ w'.cell? ⟨gQ, 4, none⟩ = some (.slice pq xs.length cq)) ∧ (w'.cell? ⟨gl, j * 5, none⟩ = some (.int .i64 kd) ∧ w'.cell? ⟨gl, j * 5 + 1, none⟩ = some (.int .i64 md) ∧ w'.cell? ⟨gl, j * 5 + 2, none⟩ = some (.int .i64 dx) ∧ w'.cell? ⟨gl, j * 5 + 3, none⟩ = some (.int .i64 dy) ∧ w'.cell? ⟨gl, j * 5 + 4, none⟩ = some (.slice la xs.length lc)) ∧ (w'.cell? ⟨gC, 0, none⟩ = some (.bool k) ∧ w'.cell? ⟨gC, 1, none⟩ = some (.int .i64 q) ∧ w'.cell? ⟨gC, 2, none⟩ = some (.bool g) ∧ w'.cell? ⟨gC, 3, none⟩ = some (.bool x)))
        (first | (with_reducible exact hS) | go_keep)
        (first
          | (go_at_call 12; refine (C5.out _ _ _ J1 J2).mono ?_; rintro e uA ⟨rfl, hc⟩; have hbA := hbu.trans (hc.mono hbu.size); obtain ⟨hS, JA1, JA2, _⟩ := HV.out uA hbA; clear hc)
          | (go_at_call 13; refine (C3.out _ JA2).mono ?_; rintro e uB ⟨rfl, hc⟩; have hbB := hbA.trans (hc.mono hbA.size); obtain ⟨hS, JB1, JB2, _⟩ := HV.out uB hbB; clear hc)
          | (go_at_call 14; refine (C6.out _ _ _ JB1).mono ?_; rintro e uC ⟨rfl, hc⟩; have hbC := hbB.trans (hc.mono hbB.size); obtain ⟨hS, _, _, hbE⟩ := HV.out uC hbC; clear hc))
      all_goals
        clear hS
        go_wp2
        refine ⟨⟨j + 1, by omega, by go_num, hbE⟩, ?_⟩
        simp [intOf]; omega
    · obtain rfl : j = n := by omega
      have l1 : ¬ (j : Int) < (j : Int) := by omega
      go_wp2
      go_ret
      exact ⟨by show Ending.returned (Value.bool (decide (0 < j))) = _; rw [decide_eq_true (show 0 < j by omega)], hbW.trans (hb.mono hbW.size)⟩
end Go.Proofs.YtnlbigjfnjcldaaGreat
