/-
  impl.RunsSize, impl.RunsRow.
-/
import Derived.Test.YtnlbigjfnjcldaaGreatRunAll
import Derived.Test.YtnlbigjfnjcldaaGreatShelf
import Derived.Test.YtnlbigjfnjcldaaGreatBuildShelf
namespace Go.Proofs.YtnlbigjfnjcldaaGreat
open Go.RowKit
set_option linter.unusedVariables false
set_option maxRecDepth 20000

/-- The cells of a row of runs that a call owns, wherever they lie. -/
theorem runs_cells {w : World} {B : Nat} {v : Value} {rs : List (Nat × Int)} (h : w.ownsRow B 159 2 v rs.length (runCells rs)) :
    ∃ p c, v = .slice p rs.length c ∧ Hid (∀ k, k < rs.length → ∃ g, p = some ⟨g, 0, none⟩ ∧ g < w.heap.size ∧ ∀ w', Below w.heap.size w w' → w'.cell? ⟨g, k * 2, none⟩ = some (.int .i64 ((rs.getD k (0, 0)).1 : Int)) ∧ w'.cell? ⟨g, k * 2 + 1, none⟩ = some (.int .i64 (rs.getD k (0, 0)).2)) := by
  rcases h.2 with ⟨h1, h2⟩ | ⟨g, cap, cur, h1, h2, h3, h4⟩
  · exact ⟨none, 0, by rw [h1, h2], fun k hk => by omega⟩
  · refine ⟨some ⟨g, 0, none⟩, cap, h1, fun k hk => ⟨g, rfl, (Array.getElem?_eq_some_iff.1 h3).1, fun w' hb => ?_⟩⟩
    have e := runCells_get rs k hk
    subst h1
    have c0 := h.cellAt (k * 2) (by omega)
    have c1 := h.cellAt (k * 2 + 1) (by omega)
    have hg : g < w.heap.size := (Array.getElem?_eq_some_iff.1 h3).1
    exact ⟨(hb.cell (p := ⟨g, k * 2, none⟩) hg).trans (c0.trans e.1), (hb.cell (p := ⟨g, k * 2 + 1, none⟩) hg).trans (c1.trans e.2)⟩

theorem builder_below {w w' : World} {B b : Nat} {bs : List Value} (h : Lib.IsBuilder 114 5 B b bs w) (hb : Below w.heap.size w w') : Lib.IsBuilder 114 5 B b bs w' := by
  rcases h with ⟨h0, v, h1, h2, h3⟩ | ⟨h0, v, h1, h2, h3⟩
  · exact .inl ⟨h0, v, (hb.block b (Array.getElem?_eq_some_iff.1 h1).1).trans h1, owned_below h2 hb, h3⟩
  · exact .inr ⟨h0, v, (hb.block b (Array.getElem?_eq_some_iff.1 h1).1).trans h1, owned_below h2 hb, h3⟩
/-- The cells of a text. -/
abbrev tcells (s : ByteArray) : List Value := Lib.byteCells s.data.toList
theorem tcells_app (s t : ByteArray) : tcells s ++ Lib.strCells t = tcells (s ++ t) := by
  rw [Lib.strCells_eq, ← Lib.byteCells_append]
  simp [tcells]

set_option maxHeartbeats 1600000 in
theorem implRunsRow_yes (a : Option Addr) (cap : Nat) (xs : List Int) (w : World) (h : Ints w a xs) (hy : rnOk xs = true) :
    Calls Tryz.prog 126 #[.slice a xs.length cap] w fun e w' => e = .returned (.tuple #[.string (rnS xs), .bool true]) ∧ Below w.heap.size w w' := by
  obtain ⟨h1, h2⟩ := rnOk_of hy
  have hl : xs.length ≤ 64 := by rcases h1 with h | h <;> omega
  have HC : Hid (Calls Tryz.prog 135 #[.slice a xs.length cap] w (fun e w' => (∃ v, e = .returned (.tuple #[v, .bool true]) ∧ w'.ownsRow w.heap.size 159 2 v (rnF xs xs.length).length (runCells (rnF xs xs.length))) ∧ Below w.heap.size w w')) := runsOf_yes a cap xs w h hy
  have HO : Hid (∀ r ∈ rnF xs xs.length, RunOk r) := rn_ok h2 hl xs.length (Nat.le_refl _)
  have hm : (rnF xs xs.length).length ≤ 64 := by have := zr_rn_le xs xs.length; omega
  have e2 : rnS xs = strOfNums (rowL (rnF xs xs.length)) := if_pos hy
  rw [e2]
  clear h h1 h2 hy hl e2
  generalize rnF xs xs.length = rs at *
  have CU : Hid (∀ w', Calls Tryz.prog 52 #[.int .i64 (rs.length : Int)] w' (fun e w'' => e = .returned (.tuple #[.string (ueS (rs.length : Int)), .bool true]) ∧ Below w'.heap.size w' w'')) := fun w' => implUeRow (rs.length : Int) w' (by omega)
  have hu := (ueL_len (rs.length : Int) (by omega) (by omega)).1
  have hu2 := (ueL_len (rs.length : Int) (by omega) (by omega)).2.2
  have HS : Hid (∀ k, strOfNums (ueL (rs.length : Int) ++ bodyL (rs.take k)) = ueS (rs.length : Int) ++ strOfNums (bodyL (rs.take k))) := fun k => by rw [ueS_is, strOfNums_app]
  have HR : Hid (strOfNums (rowL rs) = ueS (rs.length : Int) ++ strOfNums (bodyL (rs.take rs.length))) := by
    show _ = _
    rw [List.take_length, ueS_is, strOfNums_app]
    rfl
  have q1 : (ueS (rs.length : Int)).size ≤ 40 := by rw [ueS_is, sizeS]; omega
  have m64 : (rs.length : Int) ≤ 64 := by omega
  generalize ueS (rs.length : Int) = U at *
  clear hu hu2 hm
  go_enter Tryz.func126, Tryz.ntmps126
  go_wp2_with fail
  refine HC.out.mono ?_
  rintro e w1 ⟨⟨v, rfl, hown⟩, hc1⟩
  obtain ⟨q, c, rfl, HG⟩ := runs_cells hown
  clear hown
  go_wp2_with fail
  have b0 : Lib.IsBuilder 114 5 w1.heap.size w1.heap.size (tcells ⟨#[]⟩) (w1.alloc (.cells #[.pointer none, .slice none 0 0] 114)) := Lib.fresh_isBuilder _ _ w1
  have hb0 : Below w1.heap.size w1 (w1.alloc (.cells #[.pointer none, .slice none 0 0] 114)) := (Below.refl _ _).alloc (Nat.le_refl _) _
  have HB0 : Hid _ := b0
  generalize w1.alloc (.cells #[.pointer none, .slice none 0 0] 114) = V at *
  refine (CU.out V).mono ?_
  rintro e w2 ⟨rfl, hc2⟩
  have b2 : Hid (Lib.IsBuilder 114 5 w1.heap.size w1.heap.size (tcells ⟨#[]⟩) w2) := builder_below b0 hc2
  have hb2 := hb0.trans (hc2.mono hb0.size)
  clear b0 hb0 hc2 HB0
  go_wp2_with fail
  refine (Tryz.Builder_WriteString w1.heap.size w1.heap.size (tcells ⟨#[]⟩) U w2 b2.out (by have : (tcells ⟨#[]⟩).length = 0 := rfl; omega) hb2.size).mono ?_
  rintro e w3 ⟨rfl, hx3, hc3⟩
  have b3 : Hid (Lib.IsBuilder 114 5 w1.heap.size w1.heap.size (tcells (U ++ strOfNums (bodyL (rs.take 0)))) w3) := by
    have h3 : Lib.IsBuilder 114 5 w1.heap.size w1.heap.size (tcells ⟨#[]⟩ ++ Lib.strCells U) w3 := .inr hx3
    rw [tcells_app] at h3
    have e3 : (⟨#[]⟩ : ByteArray) ++ U = U ++ strOfNums (bodyL (rs.take 0)) := by
      rw [List.take_zero]
      apply ByteArray.ext
      simp [bodyL, strOfNums]
    rw [e3] at h3
    exact h3
  have hb3 := hb2.trans hc3
  clear b2 hb2 hx3 hc3
  go_wp2_with fail
  go_loopw [28] (fun i wr => ∃ k : Nat, k ≤ rs.length ∧ i = .int .i64 (k : Int) ∧ Hid (Lib.IsBuilder 114 5 w1.heap.size w1.heap.size (tcells (U ++ strOfNums (bodyL (rs.take k)))) wr) ∧ Below w1.heap.size w1 wr) (fun i _ => rs.length - (intOf i).toNat)
  case atStart => exact ⟨0, Nat.zero_le _, rfl, b3, hb3⟩
  case round =>
    obtain ⟨k, hk, rfl, HBk, hb⟩ := hrel
    clear b3 hb3
    have l0 : (0 : Int) ≤ (k : Int) := by omega
    have hs1 := bodyL_len (rs := rs.take k) (fun r hr => HO.out r (List.mem_of_mem_take hr))
    have hln : (rs.take k).length ≤ 64 := by rw [List.length_take]; omega
    have hTs : (U ++ strOfNums (bodyL (rs.take k))).size ≤ 5100 := by rw [ByteArray.size_append, sizeS]; omega
    by_cases hlt : k < rs.length
    · have l1 : (k : Int) < (rs.length : Int) := by omega
      obtain ⟨g, rfl, hg, HGk⟩ := HG.out k hlt
      obtain ⟨d0, d1⟩ := HGk wr hb
      have hro := HO.out _ (getD_mem rs k hlt)
      have hst := take_snoc rs k hlt
      have hrn := runL_len hro
      obtain ⟨r, hr⟩ : ∃ r, rs.getD k (0, 0) = r := ⟨_, rfl⟩
      rw [hr] at d0 d1 hro hst hrn
      have HT : Hid (U ++ strOfNums (bodyL (rs.take k)) ++ strOfNums (runL r) = U ++ strOfNums (bodyL (rs.take (k + 1)))) := by
        show _ = _
        rw [hst, bodyL_append, bodyL_one, ← strOfNums_app, ByteArray.append_assoc]
      have CR : Hid (∀ w', Calls Tryz.prog 136 #[.agg #[.int .i64 (r.1 : Int), .int .i64 r.2]] w' (fun e w'' => e = .returned (.string (strOfNums (runL r))) ∧ Below w'.heap.size w' w'')) := fun w' => runRow r w' hro
      have y1 : (strOfNums (runL r)).size ≤ 78 := by rw [sizeS]; omega
      obtain ⟨r0, hr0⟩ : ∃ r0 : Int, (r.1 : Int) = r0 := ⟨_, rfl⟩
      obtain ⟨r1, hr1⟩ : ∃ r1 : Int, r.2 = r1 := ⟨_, rfl⟩
      rw [hr0] at d0 CR
      rw [hr1] at d1 CR
      generalize strOfNums (runL r) = R at *
      generalize U ++ strOfNums (bodyL (rs.take k)) = T at *
      have HZ : Hid ((tcells T).length + R.size ≤ 140737488355328) := by
        show _ ≤ _
        rw [Lib.byteCells_length]
        have : T.data.toList.length = T.size := by rw [Array.length_toList]; rfl
        omega
      have HBx : Hid (∀ o, Lib.IsBuilder 114 5 w1.heap.size w1.heap.size (tcells T) (wr.alloc o)) := fun o => builder_below HBk.out ((Below.refl _ _).alloc (Nat.le_refl _) _)
      have HV : Hid (∀ o, Below w1.heap.size w1 (wr.alloc o)) := fun o => hb.alloc hb.size _
      clear hs1 hln hrn hst hro hr hr0 hr1 HGk hTs y1
      go_wp2_with (first
        | (go_at_call 136; refine (CR.out _).mono ?_; rintro e w4 ⟨rfl, hc4⟩; have B4 : Hid (Lib.IsBuilder 114 5 w1.heap.size w1.heap.size (tcells T) w4) := builder_below (HBx.out _) hc4; have V4 : Below w1.heap.size w1 w4 := (HV.out _).trans (hc4.mono (HV.out _).size); clear hc4)
        | (go_at_call 83; refine (Tryz.Builder_WriteString w1.heap.size w1.heap.size (tcells T) R _ B4.out HZ.out V4.size).mono ?_; rintro e w5 ⟨rfl, hx5, hc5⟩; have B5 : Hid (Lib.IsBuilder 114 5 w1.heap.size w1.heap.size (tcells T ++ Lib.strCells R) w5) := .inr hx5; clear hx5))
      have B6 : Hid (Lib.IsBuilder 114 5 w1.heap.size w1.heap.size (tcells (U ++ strOfNums (bodyL (rs.take (k + 1))))) w5) := by
        have := B5.out
        rw [tcells_app, HT.out] at this
        exact this
      go_roundw
      case rel => exact ⟨k + 1, by omega, by go_num, B6, V4.trans hc5⟩
      case measure => simp [intOf]; omega
    · obtain rfl : k = rs.length := by omega
      rw [← HR.out] at HBk
      have CE : Hid (Calls Tryz.prog 85 #[.pointer (some ⟨w1.heap.size, 0, none⟩)] wr (fun e w' => e = .returned (.string (strOfNums (rowL rs))) ∧ Below w1.heap.size wr w')) :=
        Tryz.Builder_String_any w1.heap.size w1.heap.size (strOfNums (rowL rs)).data.toList wr HBk.out hb.size
      go_wp2_with (go_at_call 85; refine CE.out.mono ?_; rintro e w6 ⟨rfl, hc6⟩)
      go_ret2
      exact ⟨rfl, hc1.trans ((hb.trans hc6).mono hc1.size)⟩

theorem implRunsRow (a : Option Addr) (cap : Nat) (xs : List Int) (w : World) (h : Ints w a xs) (hl : xs.length ≤ maxLen) :
    Calls Tryz.prog 126 #[.slice a xs.length cap] w fun e w' => e = .returned (.tuple #[.string (rnS xs), .bool (rnOk xs)]) ∧ Below w.heap.size w w' := by
  cases hy : rnOk xs with
  | true => exact implRunsRow_yes a cap xs w h hy
  | false =>
    have HC : Hid (Calls Tryz.prog 135 #[.slice a xs.length cap] w (fun e w' => (∃ v, e = .returned (.tuple #[v, .bool false])) ∧ Below w.heap.size w w')) := runsOf_no a cap xs w h hl hy
    have e2 : rnS xs = ⟨#[]⟩ := if_neg (by rw [hy]; decide)
    rw [e2]
    clear h hl hy e2
    go_enter Tryz.func126, Tryz.ntmps126
    go_wp2_with (go_at_call 135; refine HC.out.mono ?_; rintro e w1 ⟨⟨v, rfl⟩, hc1⟩)
    go_ret2
    exact ⟨rfl, hc1⟩
end Go.Proofs.YtnlbigjfnjcldaaGreat
