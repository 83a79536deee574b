/-
  What the laws over the tables of steps share: each table as the row lists it, cell by cell, and a world that meets the row's condition.
-/
import Derived.Test.YtlejfkjanllgbaaGreatDoorCards
import Derived.Test.YtlejfkjanllgbaaGreatDoorTie
import Derived.Test.YtlejfkjanllgbaaGreatDoorStepAll
import Derived.ProofKit
import Derived.OpenShut
import Derived.OpenVars
import Derived.LaidMore
import Derived.LaidSub
import Derived.Lib.LaidTab
import Derived.SevenTiedAt
import Derived.Stop.Joined
import Derived.ChangeOld
import Derived.Below
namespace Go.Proofs.YtlejfkjanllgbaaGreatDoor
open Go.ChangeShapes Go.WideShapes Go.ChangeAt Go.RowKit
set_option linter.unusedVariables false
set_option maxRecDepth 20000

theorem own : ownKnob Tryz.prog.godebug = none := by kernel_rfl
theorem laidOut : laidOutB Tryz.prog = true := by kernel_rfl
theorem gKind : Tryz.prog.globalNamed "loop.example/g00960/impl.kindTable" = some 0 := by kernel_rfl
theorem gScale : Tryz.prog.globalNamed "loop.example/g00960/impl.scaleTable" = some 2 := by kernel_rfl
theorem gShare : Tryz.prog.globalNamed "loop.example/g00960/impl.shareTable" = some 1 := by kernel_rfl

/-- An array of arrays of integers that reads as rows of numbers holds these numbers, row for row. -/
theorem cells_of_rows {H : Type} {enc : TypeId × Value → H} {P : Program} {w : World} {base : Nat} {sp : Nat → Bool} {held : Bool} {fuel : Nat} {t e u : TypeId} {n m : Nat} {k : IntKind} {cs : List Value} {zss : List (List Int)} {p : List MemPlace}
    (ht : P.underlying t = some (.array n e)) (he : P.underlying e = some (.array m u)) (hu : P.underlying u = some (.int k)) (hcu : P.cellsOf u = 1) (hce : P.cellsOf e = m)
    (h : DataW.trod enc P w base sp held fuel t cs = some (.agg (zss.map (Lib.tabData k)), p)) (i : Nat) (zs : List Int) (hi : zss[i]? = some zs) : (cs.drop (i * m)).take m = zs.map fun z => Value.int k z := by
  obtain ⟨xs, f, -, hx, -, hn, hel⟩ := DataW.trod_array ht h
  have hxs : zss.map (Lib.tabData k) = xs.map (·.1) := by
    have := congrArg Prod.fst hx
    simpa using this
  have h1 : (xs.map (·.1))[i]? = some (Lib.tabData k zs) := by rw [← hxs, List.getElem?_map, hi]; rfl
  rw [List.getElem?_map, Option.map_eq_some_iff] at h1
  obtain ⟨⟨d, q⟩, hxi, rfl⟩ := h1
  have hin : i < n := by rw [← hn]; exact (List.getElem?_eq_some_iff.1 hxi).1
  have h2 := hel i hin
  rw [hxi, hce] at h2
  exact Lib.cells_of_tab he hu hcu hce h2

theorem tab_of_rows {P : Program} {W : World} {name : String} {zss : List (List Int)} {rest : List (String × DataW Unit)} {g : Nat} {t e u : TypeId} {n m : Nat} {l : List Int}
    (hg : P.globalNamed name = some g) (hty : (P.globals[g]?).map (·.type) = some t) (ht : P.underlying t = some (.array n e)) (he : P.underlying e = some (.array m u)) (hu : P.underlying u = some (.int .i64)) (hcu : P.cellsOf u = 1) (hce : P.cellsOf e = m)
    (hm : 0 < m) (hl : ∀ i, i < l.length → ∃ zs, zss[i / m]? = some zs ∧ zs[i % m]? = some (l.getD i 0)) (h : laidMet P ((name, .agg (zss.map (Lib.tabData .i64))) :: rest) W) : TabC W g l := by
  obtain ⟨ps, ⟨g', t', cs, fuel, p, q, hg', ht', hvar, hd, _, _⟩, _⟩ := h
  obtain rfl := Option.some.inj (hg.symm.trans hg')
  obtain rfl := Option.some.inj (hty.symm.trans ht')
  intro i hi
  obtain ⟨zs, h1, h2⟩ := hl i hi
  have h3 := cells_of_rows ht he hu hcu hce hd _ _ h1
  have h4 := World.var?_cell hg hvar i
  rw [h4]
  have h5 : ((cs.toList.drop (i / m * m)).take m)[i % m]? = some (.int .i64 (l.getD i 0)) := by rw [h3, List.getElem?_map, h2]; rfl
  rw [List.getElem?_take, if_pos (Nat.mod_lt _ hm), List.getElem?_drop, Nat.div_add_mod'] at h5
  simpa using h5

theorem TabC.below {w w' : World} {g : Nat} {l : List Int} (h : TabC w g l) (hb : Below w.heap.size w w') : TabC w' g l := fun i hi =>
  (hb.cell (p := ⟨g, i, none⟩) (World.block_lt_of_cell? w _ (h i hi))).trans (h i hi)

theorem kind_of {P : List (String × DataW Unit)} {W : World} (h : laidMetH Tryz.prog P W)
    (e : (P.filter fun x => x.1 == "loop.example/g00960/impl.kindTable") = [("loop.example/g00960/impl.kindTable", Rows.laid_loop_example_g00960_impl_kindTable)]) : TabC W 0 kdL := by
  have h1 := h.filter fun x => x.1 == "loop.example/g00960/impl.kindTable"
  rw [e, MakeChecks.laidMetH_plain _ _ _ (by kernel_rfl)] at h1
  exact tab_of_rows (zss := [[0, 2], [2, 1]]) (rest := []) gKind (by kernel_rfl) Tryz.underlying141 Tryz.underlying140 Tryz.underlying3 (by kernel_rfl) (by kernel_rfl) (by decide) (fun i hi => by
    match i, hi with
    | 0, _ | 1, _ | 2, _ | 3, _ => exact ⟨_, rfl, rfl⟩) h1
theorem scale_of {P : List (String × DataW Unit)} {W : World} (h : laidMetH Tryz.prog P W)
    (e : (P.filter fun x => x.1 == "loop.example/g00960/impl.scaleTable") = [("loop.example/g00960/impl.scaleTable", Rows.laid_loop_example_g00960_impl_scaleTable)]) : TabC W 2 scL := by
  have h1 := h.filter fun x => x.1 == "loop.example/g00960/impl.scaleTable"
  rw [e, MakeChecks.laidMetH_plain _ _ _ (by kernel_rfl)] at h1
  exact tab_of_rows (zss := [[10, 16, 13], [11, 18, 14], [13, 20, 16], [14, 23, 18], [16, 25, 20], [18, 29, 23]]) (rest := []) gScale (by kernel_rfl) Tryz.underlying143 Tryz.underlying142 Tryz.underlying3 (by kernel_rfl) (by kernel_rfl) (by decide) (fun i hi => by
    match i, hi with
    | 0, _ | 1, _ | 2, _ | 3, _ | 4, _ | 5, _ | 6, _ | 7, _ | 8, _ | 9, _ | 10, _ | 11, _ | 12, _ | 13, _ | 14, _ | 15, _ | 16, _ | 17, _ => exact ⟨_, rfl, rfl⟩
    | k + 18, h => exact absurd (show k + 18 < 18 from h) (by omega)) h1
theorem share_of {P : List (String × DataW Unit)} {W : World} (h : laidMetH Tryz.prog P W)
    (e : (P.filter fun x => x.1 == "loop.example/g00960/impl.shareTable") = [("loop.example/g00960/impl.shareTable", Rows.laid_loop_example_g00960_impl_shareTable)]) : TabC W 1 shL := by
  have h1 := h.filter fun x => x.1 == "loop.example/g00960/impl.shareTable"
  rw [e, MakeChecks.laidMetH_plain _ _ _ (by kernel_rfl)] at h1
  exact tab_of_rows (zss := [[13107, 5243, 8066], [11916, 4660, 7490], [10082, 4194, 6554], [9362, 3647, 5825], [8192, 3355, 5243], [7282, 2893, 4559]]) (rest := []) gShare (by kernel_rfl) Tryz.underlying143 Tryz.underlying142 Tryz.underlying3 (by kernel_rfl) (by kernel_rfl) (by decide) (fun i hi => by
    match i, hi with
    | 0, _ | 1, _ | 2, _ | 3, _ | 4, _ | 5, _ | 6, _ | 7, _ | 8, _ | 9, _ | 10, _ | 11, _ | 12, _ | 13, _ | 14, _ | 15, _ | 16, _ | 17, _ => exact ⟨_, rfl, rfl⟩
    | k + 18, h => exact absurd (show k + 18 < 18 from h) (by omega)) h1

theorem vars_cons {H : Type} {enc : TypeId × Value → H} {P : Program} {w : World} {sp : Nat → Bool} {n : String} {ns : List String} {gs : List (DataW H)} {ps : List MemPlace} (h : DataW.TrodVars enc P w sp (n :: ns) gs ps) :
    ∃ d ds q, gs = d :: ds ∧ DataW.TrodVars enc P w sp ns ds q := by
  cases gs with
  | nil => simp [DataW.TrodVars] at h
  | cons d ds =>
    obtain ⟨g, t, cs, fuel, p, q, _, _, _, _, hs, _⟩ := h
    exact ⟨d, ds, q, rfl, hs⟩
end Go.Proofs.YtlejfkjanllgbaaGreatDoor
