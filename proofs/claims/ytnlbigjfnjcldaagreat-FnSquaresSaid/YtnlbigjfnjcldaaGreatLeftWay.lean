/-
  The three ways in a table of functions: the walk of (impl.Cond).way.
-/
import Derived.Test.YtnlbigjfnjcldaaGreatCondKit
import Derived.Test.YtnlbigjfnjcldaaGreatSqRun
namespace Go.Proofs.YtnlbigjfnjcldaaGreat
open Go.RowKit
set_option linter.unusedVariables false
set_option maxRecDepth 20000

abbrev exV : Array Value := #[.func (Fn.func 131) #[] #[], .func (Fn.func 132) #[] #[], .int .i64 64]
abbrev lgV : Array Value := #[.func (Fn.func 129) #[] #[], .func (Fn.func 130) #[] #[], .int .i64 64]
abbrev smV : Array Value := #[.func (Fn.func 127) #[] #[], .func (Fn.func 128) #[] #[], .int .i64 16]
/-- The way of a condition: to levels, back, and how many levels have a row together. -/
def wayV (g x : Bool) : Value := .agg (if x = true then exV else if g = true then lgV else smV)
abbrev tabV : Array Value := #[.func (Fn.func 127) #[] #[], .func (Fn.func 128) #[] #[], .int .i64 16, .func (Fn.func 129) #[] #[], .func (Fn.func 130) #[] #[], .int .i64 64, .func (Fn.func 131) #[] #[], .func (Fn.func 132) #[] #[], .int .i64 64]
theorem sizeWay : (Tryz.prog.info? 151).map (·.size) = some 3 := by kernel_rfl
theorem sizeTab : (Tryz.prog.info? 157).map (·.size) = some 9 := by kernel_rfl
theorem oneTab : tabV.all (·.oneCell') = true := by kernel_rfl
theorem one_exV : exV.all (·.oneCell') = true := by kernel_rfl
theorem one_lgV : lgV.all (·.oneCell') = true := by kernel_rfl
theorem one_smV : smV.all (·.oneCell') = true := by kernel_rfl
theorem there_blk {w : World} {g n : Nat} {cs : Array Value} {t : TypeId} (h : Blk w g cs t) (hn : n = cs.size) : w.there g 0 n := fun j hj => by
  subst hn
  rw [Nat.zero_add, h.cell j, h.frozen j, Array.getElem?_eq_getElem hj]
  exact ⟨rfl, rfl⟩
theorem range_blk {w : World} {g : Nat} {cs : Array Value} {t : TypeId} (h : Blk w g cs t) (o : Nat) (l : List Value) (hl : ∀ j v, l[j]? = some v → cs[o + j]? = some v) : w.rangeAt g o l := fun j v hv => by
  rw [h.cell (o + j)]
  exact hl j v hv

set_option maxHeartbeats 1600000 in
theorem way_any (k : Bool) (q : Int) (g x : Bool) (w : World) :
    Calls Tryz.prog 123 #[conV k q g x] w fun e w' => e = .returned (wayV g x) ∧ Below w.heap.size w w' := by
  cases x with
  | true =>
    go_enter Tryz.func123, Tryz.ntmps123
    go_wp2_with (first
      | ((with_reducible refine at_store ?_); refine wpList_store_mid rfl _ _ _ rfl (w.heap.size + 1) 0 exV rfl rfl (there_blk C1 (by rfl)) sizeWay one_exV ?_; have D1 : Blk (Z.setCells (w.heap.size + 1) 0 exV.toList) (w.heap.size + 1) exV 151 := ((((((C1).set 0 (.func (Fn.func 131) #[] #[]) (by simp))).set 1 (.func (Fn.func 132) #[] #[]) (by simp))).set 2 (.int .i64 64) (by simp)); have hb2 : Below w.heap.size w (Z.setCells (w.heap.size + 1) 0 exV.toList) := below_setCells (by omega) _ _ _ hbz; clear C1 C2 x0 x1 x2 x3 hbz; generalize World.setCells Z _ _ _ = Y at *)
      | ((with_reducible refine at_load ?_); refine wpList_load_mid rfl _ _ rfl (w.heap.size + 1 + 1) 6 rfl exV.toList _ (range_blk C2 6 exV.toList (fun j u hu => by rcases j with _ | _ | _ | j <;> simp_all)) Tryz.underlying151 rfl sizeWay ?_)
      | ((with_reducible refine at_store ?_); generalize hV : World.alloc (World.alloc (World.alloc w _) _) _ = V; have B0 := (show Blk V w.heap.size #[.bool k, .int .i64 q, .bool g, .bool true] 26 by rw [← hV]; exact ((Blk.new w _ _).alloc _).alloc _); have B1 := (show Blk V (w.heap.size + 1) _ 151 by rw [← hV]; exact (Blk.new' _ _ (by simp)).alloc _); have B2 := (show Blk V (w.heap.size + 1 + 1) _ 157 by rw [← hV]; exact Blk.new' _ _ (by simp)); have hb := (show Below w.heap.size w V by rw [← hV]; exact (((Below.refl _ _).alloc (Nat.le_refl _) _).alloc (by simp) _).alloc (by simp; omega) _); clear hV; refine wpList_store_mid rfl _ _ _ rfl (w.heap.size + 1 + 1) 0 tabV rfl rfl (there_blk B2 (by rfl)) sizeTab oneTab ?_; have C0 := Blk.others (show w.heap.size ≠ w.heap.size + 1 + 1 by omega) tabV.toList 0 B0; have C1 := Blk.others (show w.heap.size + 1 ≠ w.heap.size + 1 + 1 by omega) tabV.toList 0 B1; have C2 : Blk (V.setCells (w.heap.size + 1 + 1) 0 tabV.toList) (w.heap.size + 1 + 1) tabV 157 := ((((((((((((((((((B2).set 0 (.func (Fn.func 127) #[] #[]) (by simp))).set 1 (.func (Fn.func 128) #[] #[]) (by simp))).set 2 (.int .i64 16) (by simp))).set 3 (.func (Fn.func 129) #[] #[]) (by simp))).set 4 (.func (Fn.func 130) #[] #[]) (by simp))).set 5 (.int .i64 64) (by simp))).set 6 (.func (Fn.func 131) #[] #[]) (by simp))).set 7 (.func (Fn.func 132) #[] #[]) (by simp))).set 8 (.int .i64 64) (by simp)); have hbz : Below w.heap.size w (V.setCells (w.heap.size + 1 + 1) 0 tabV.toList) := below_setCells (by omega) _ _ _ hb; clear B0 B1 B2 hb; generalize World.setCells V _ _ _ = Z at *; obtain ⟨⟨x0, x1, x2, x3⟩, _⟩ := C0.four; clear C0))
    (try simp only [Exit.inBlock, Exit.then])
    refine bodyPost_ret (results_cell_row rfl _ _ (w.heap.size + 1) 151 _ (0, 0) _ rfl D1 Tryz.underlying151 rfl (by kernel_rfl)) rfl ?_
    exact ⟨rfl, hb2⟩
  | false =>
    cases g with
    | true =>
      go_enter Tryz.func123, Tryz.ntmps123
      go_wp2_with (first
        | ((with_reducible refine at_store ?_); refine wpList_store_mid rfl _ _ _ rfl (w.heap.size + 1) 0 lgV rfl rfl (there_blk C1 (by rfl)) sizeWay one_lgV ?_; have D1 : Blk (Z.setCells (w.heap.size + 1) 0 lgV.toList) (w.heap.size + 1) lgV 151 := ((((((C1).set 0 (.func (Fn.func 129) #[] #[]) (by simp))).set 1 (.func (Fn.func 130) #[] #[]) (by simp))).set 2 (.int .i64 64) (by simp)); have hb2 : Below w.heap.size w (Z.setCells (w.heap.size + 1) 0 lgV.toList) := below_setCells (by omega) _ _ _ hbz; clear C1 C2 x0 x1 x2 x3 hbz; generalize World.setCells Z _ _ _ = Y at *)
        | ((with_reducible refine at_load ?_); refine wpList_load_mid rfl _ _ rfl (w.heap.size + 1 + 1) 3 rfl lgV.toList _ (range_blk C2 3 lgV.toList (fun j u hu => by rcases j with _ | _ | _ | j <;> simp_all)) Tryz.underlying151 rfl sizeWay ?_)
        | ((with_reducible refine at_store ?_); generalize hV : World.alloc (World.alloc (World.alloc w _) _) _ = V; have B0 := (show Blk V w.heap.size #[.bool k, .int .i64 q, .bool true, .bool false] 26 by rw [← hV]; exact ((Blk.new w _ _).alloc _).alloc _); have B1 := (show Blk V (w.heap.size + 1) _ 151 by rw [← hV]; exact (Blk.new' _ _ (by simp)).alloc _); have B2 := (show Blk V (w.heap.size + 1 + 1) _ 157 by rw [← hV]; exact Blk.new' _ _ (by simp)); have hb := (show Below w.heap.size w V by rw [← hV]; exact (((Below.refl _ _).alloc (Nat.le_refl _) _).alloc (by simp) _).alloc (by simp; omega) _); clear hV; refine wpList_store_mid rfl _ _ _ rfl (w.heap.size + 1 + 1) 0 tabV rfl rfl (there_blk B2 (by rfl)) sizeTab oneTab ?_; have C0 := Blk.others (show w.heap.size ≠ w.heap.size + 1 + 1 by omega) tabV.toList 0 B0; have C1 := Blk.others (show w.heap.size + 1 ≠ w.heap.size + 1 + 1 by omega) tabV.toList 0 B1; have C2 : Blk (V.setCells (w.heap.size + 1 + 1) 0 tabV.toList) (w.heap.size + 1 + 1) tabV 157 := ((((((((((((((((((B2).set 0 (.func (Fn.func 127) #[] #[]) (by simp))).set 1 (.func (Fn.func 128) #[] #[]) (by simp))).set 2 (.int .i64 16) (by simp))).set 3 (.func (Fn.func 129) #[] #[]) (by simp))).set 4 (.func (Fn.func 130) #[] #[]) (by simp))).set 5 (.int .i64 64) (by simp))).set 6 (.func (Fn.func 131) #[] #[]) (by simp))).set 7 (.func (Fn.func 132) #[] #[]) (by simp))).set 8 (.int .i64 64) (by simp)); have hbz : Below w.heap.size w (V.setCells (w.heap.size + 1 + 1) 0 tabV.toList) := below_setCells (by omega) _ _ _ hb; clear B0 B1 B2 hb; generalize World.setCells V _ _ _ = Z at *; obtain ⟨⟨x0, x1, x2, x3⟩, _⟩ := C0.four; clear C0))
      (try simp only [Exit.inBlock, Exit.then])
      refine bodyPost_ret (results_cell_row rfl _ _ (w.heap.size + 1) 151 _ (0, 0) _ rfl D1 Tryz.underlying151 rfl (by kernel_rfl)) rfl ?_
      exact ⟨rfl, hb2⟩
    | false =>
      go_enter Tryz.func123, Tryz.ntmps123
      go_wp2_with (first
        | ((with_reducible refine at_store ?_); refine wpList_store_mid rfl _ _ _ rfl (w.heap.size + 1) 0 smV rfl rfl (there_blk C1 (by rfl)) sizeWay one_smV ?_; have D1 : Blk (Z.setCells (w.heap.size + 1) 0 smV.toList) (w.heap.size + 1) smV 151 := ((((((C1).set 0 (.func (Fn.func 127) #[] #[]) (by simp))).set 1 (.func (Fn.func 128) #[] #[]) (by simp))).set 2 (.int .i64 16) (by simp)); have hb2 : Below w.heap.size w (Z.setCells (w.heap.size + 1) 0 smV.toList) := below_setCells (by omega) _ _ _ hbz; clear C1 C2 x0 x1 x2 x3 hbz; generalize World.setCells Z _ _ _ = Y at *)
        | ((with_reducible refine at_load ?_); refine wpList_load_mid rfl _ _ rfl (w.heap.size + 1 + 1) 0 rfl smV.toList _ (range_blk C2 0 smV.toList (fun j u hu => by rcases j with _ | _ | _ | j <;> simp_all)) Tryz.underlying151 rfl sizeWay ?_)
        | ((with_reducible refine at_store ?_); generalize hV : World.alloc (World.alloc (World.alloc w _) _) _ = V; have B0 := (show Blk V w.heap.size #[.bool k, .int .i64 q, .bool false, .bool false] 26 by rw [← hV]; exact ((Blk.new w _ _).alloc _).alloc _); have B1 := (show Blk V (w.heap.size + 1) _ 151 by rw [← hV]; exact (Blk.new' _ _ (by simp)).alloc _); have B2 := (show Blk V (w.heap.size + 1 + 1) _ 157 by rw [← hV]; exact Blk.new' _ _ (by simp)); have hb := (show Below w.heap.size w V by rw [← hV]; exact (((Below.refl _ _).alloc (Nat.le_refl _) _).alloc (by simp) _).alloc (by simp; omega) _); clear hV; refine wpList_store_mid rfl _ _ _ rfl (w.heap.size + 1 + 1) 0 tabV rfl rfl (there_blk B2 (by rfl)) sizeTab oneTab ?_; have C0 := Blk.others (show w.heap.size ≠ w.heap.size + 1 + 1 by omega) tabV.toList 0 B0; have C1 := Blk.others (show w.heap.size + 1 ≠ w.heap.size + 1 + 1 by omega) tabV.toList 0 B1; have C2 : Blk (V.setCells (w.heap.size + 1 + 1) 0 tabV.toList) (w.heap.size + 1 + 1) tabV 157 := ((((((((((((((((((B2).set 0 (.func (Fn.func 127) #[] #[]) (by simp))).set 1 (.func (Fn.func 128) #[] #[]) (by simp))).set 2 (.int .i64 16) (by simp))).set 3 (.func (Fn.func 129) #[] #[]) (by simp))).set 4 (.func (Fn.func 130) #[] #[]) (by simp))).set 5 (.int .i64 64) (by simp))).set 6 (.func (Fn.func 131) #[] #[]) (by simp))).set 7 (.func (Fn.func 132) #[] #[]) (by simp))).set 8 (.int .i64 64) (by simp)); have hbz : Below w.heap.size w (V.setCells (w.heap.size + 1 + 1) 0 tabV.toList) := below_setCells (by omega) _ _ _ hb; clear B0 B1 B2 hb; generalize World.setCells V _ _ _ = Z at *; obtain ⟨⟨x0, x1, x2, x3⟩, _⟩ := C0.four; clear C0))
      (try simp only [Exit.inBlock, Exit.then])
      refine bodyPost_ret (results_cell_row rfl _ _ (w.heap.size + 1) 151 _ (0, 0) _ rfl D1 Tryz.underlying151 rfl (by kernel_rfl)) rfl ?_
      exact ⟨rfl, hb2⟩
theorem way_levels (a b c : Value) (W : World) : (Instr.field 151 (.agg #[a, b, c]) 0).run Tryz.prog W = .ok a W := by kernel_rfl
theorem way_back (a b c : Value) (W : World) : (Instr.field 151 (.agg #[a, b, c]) 1).run Tryz.prog W = .ok b W := by kernel_rfl
theorem way_piece (a b c : Value) (W : World) : (Instr.field 151 (.agg #[a, b, c]) 2).run Tryz.prog W = .ok c W := by kernel_rfl
end Go.Proofs.YtnlbigjfnjcldaaGreat
