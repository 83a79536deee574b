/-
  Turns of four as functions of numbers: rows, columns, the whole turn, and the turn back.
  The types of a square of four: sizes, and what is a row.
  The walk of (impl.fourSquare).flipped: columns as rows.
  The walks of (impl.fourRow).sums and sumsBack, impl.halfDown and impl.turnedDown.
  The walk of (impl.fourSquare).rowsTurned with each of the two turns.
-/
import Derived.WalkKit
import Derived.Test.YtlejfkjanllgbaaDoorSqRun
import Derived.Deep.WholeRow
import Derived.BigRegion
import Derived.BigQuiet
namespace Go.Proofs.YtlejfkjanllgbaaDoor
set_option linter.unusedVariables false
set_option maxRecDepth 20000

/-- What a row a, b, c, d becomes, place by place. -/
def sumR (j : Nat) (a b c d : Int) : Int := match j with | 0 => a + b + c + d | 1 => 2 * a + b - c - 2 * d | 2 => a - b - c + d | _ => a - 2 * b + 2 * c - d
def bakR (j : Nat) (a b c d : Int) : Int := match j with | 0 => (a + c) + (b + d / 2) | 1 => (a - c) + (b / 2 - d) | 2 => (a - c) - (b / 2 - d) | _ => (a + c) - (b + d / 2)
/-- The four rows of sixteen numbers, each turned. -/
def rowsF (T : Nat → Int → Int → Int → Int → Int) (f : Nat → Int) (i : Nat) : Int := T (i % 4) (f (4 * (i / 4))) (f (4 * (i / 4) + 1)) (f (4 * (i / 4) + 2)) (f (4 * (i / 4) + 3))
/-- Columns as rows. -/
def flipF (f : Nat → Int) (i : Nat) : Int := f (i % 4 * 4 + i / 4)
def turnF (T : Nat → Int → Int → Int → Int → Int) (f : Nat → Int) : Nat → Int := flipF (rowsF T (flipF (rowsF T f)))
theorem rowsF_at (T : Nat → Int → Int → Int → Int → Int) (f : Nat → Int) (k j : Nat) (hj : j < 4) : rowsF T f (4 * k + j) = T j (f (4 * k)) (f (4 * k + 1)) (f (4 * k + 2)) (f (4 * k + 3)) := by
  unfold rowsF
  rw [show (4 * k + j) % 4 = j by omega, show (4 * k + j) / 4 = k by omega]
theorem flipF_at (f : Nat → Int) (k j : Nat) (hj : j < 4) (hk : k < 4) : flipF f (4 * k + j) = f (4 * j + k) := by
  unfold flipF
  rw [show (4 * k + j) % 4 * 4 + (4 * k + j) / 4 = 4 * j + k by omega]
/-- Numbers of at most M, of both signs. -/
def In (M : Int) (n : Nat) (f : Nat → Int) : Prop := ∀ i, i < n → -M ≤ f i ∧ f i ≤ M
theorem In.flip {M : Int} {f : Nat → Int} (h : In M 16 f) : In M 16 (flipF f) := fun i hi => h _ (by omega)
theorem In.sums {M : Int} {f : Nat → Int} (h : In M 16 f) : In (6 * M) 16 (rowsF sumR f) := fun i hi => by
  unfold rowsF
  have h0 := h (4 * (i / 4)) (by omega)
  have h1 := h (4 * (i / 4) + 1) (by omega)
  have h2 := h (4 * (i / 4) + 2) (by omega)
  have h3 := h (4 * (i / 4) + 3) (by omega)
  have hc : i % 4 = 0 ∨ i % 4 = 1 ∨ i % 4 = 2 ∨ i % 4 = 3 := by omega
  rcases hc with e | e | e | e <;> rw [e] <;> simp only [sumR] <;> omega
theorem In.baks {M : Int} {f : Nat → Int} (h : In M 16 f) (hM : 0 ≤ M) : In (4 * M + 2) 16 (rowsF bakR f) := fun i hi => by
  unfold rowsF
  have h0 := h (4 * (i / 4)) (by omega)
  have h1 := h (4 * (i / 4) + 1) (by omega)
  have h2 := h (4 * (i / 4) + 2) (by omega)
  have h3 := h (4 * (i / 4) + 3) (by omega)
  have hc : i % 4 = 0 ∨ i % 4 = 1 ∨ i % 4 = 2 ∨ i % 4 = 3 := by omega
  rcases hc with e | e | e | e <;> rw [e] <;> simp only [bakR] <;> omega
theorem In.turned {M : Int} {f : Nat → Int} (h : In M 16 f) : In (36 * M) 16 (turnF sumR f) := by
  have := h.sums.flip.sums.flip
  rwa [show 6 * (6 * M) = 36 * M by omega] at this
theorem In.back {M : Int} {f : Nat → Int} (h : In M 16 f) (hM : 0 ≤ M) : In (16 * M + 10) 16 (turnF bakR f) := by
  have := ((h.baks hM).flip.baks (by omega)).flip
  rwa [show 4 * (4 * M + 2) + 2 = 16 * M + 10 by omega] at this
theorem flip_zero : ∀ i, i < 16 → flipF (fun _ => 0) i = 0 := fun _ _ => rfl
/-- Noughts turn into noughts. -/
theorem sum_zero (j : Nat) : sumR j 0 0 0 0 = 0 := by unfold sumR; split <;> rfl
theorem bak_zero (j : Nat) : bakR j 0 0 0 0 = 0 := by unfold bakR; split <;> rfl
theorem turn_congr {T : Nat → Int → Int → Int → Int → Int} {f g : Nat → Int} (h : ∀ i, i < 16 → f i = g i) : ∀ i, i < 16 → turnF T f i = turnF T g i := fun i hi => by
  unfold turnF flipF rowsF
  have e : ∀ k, k < 16 → f k = g k := h
  simp only
  rw [e _ (by omega), e _ (by omega), e _ (by omega), e _ (by omega), e _ (by omega), e _ (by omega), e _ (by omega), e _ (by omega),
    e _ (by omega), e _ (by omega), e _ (by omega), e _ (by omega), e _ (by omega), e _ (by omega), e _ (by omega), e _ (by omega)]
theorem turn_zero {T : Nat → Int → Int → Int → Int → Int} (hT : ∀ j, T j 0 0 0 0 = 0) {f : Nat → Int} (h : ∀ i, i < 16 → f i = 0) : ∀ i, i < 16 → turnF T f i = f i := fun i hi => by
  rw [turn_congr (T := T) (g := fun _ => 0) h i hi, h i hi]
  unfold turnF flipF rowsF
  simp only [hT]
end Go.Proofs.YtlejfkjanllgbaaDoor

namespace Go.Proofs.YtlejfkjanllgbaaDoor
open Go.RowKit
set_option linter.unusedVariables false

theorem size44 : (Tryd.prog.info? 89).map (·.size) = some 16 := by kernel_rfl
theorem size42 : (Tryd.prog.info? 87).map (·.size) = some 16 := by kernel_rfl
theorem size41 : (Tryd.prog.info? 86).map (·.size) = some 4 := by kernel_rfl
theorem agg41 (w : World) : (isAgg 86).run Tryd.prog w = .ok true w := by
  unfold isAgg
  rw [Sem.run_bind, run_underlying Tryd.underlying86 w]
  rfl
theorem agg3 (w : World) : (isAgg 3).run Tryd.prog w = .ok false w := by
  unfold isAgg
  rw [Sem.run_bind, run_underlying Tryd.underlying3 w]
  rfl
theorem size3 : (Tryd.prog.info? 3).map (·.size) = some 1 := by kernel_rfl
theorem zero4 : (#[.int .i64 0, .int .i64 0, .int .i64 0, .int .i64 0] : Array Value) = arr 4 (fun _ => 0) := rfl

end Go.Proofs.YtlejfkjanllgbaaDoor

namespace Go.Proofs.YtlejfkjanllgbaaDoor
open Go.RowKit
set_option linter.unusedVariables false

def flipTo (f : Nat → Int) (k j i : Nat) : Int := if i % 4 < k ∨ (i % 4 = k ∧ i / 4 < j) then flipF f i else 0
theorem flipTo_hit (f : Nat → Int) (k j : Nat) (hk : k < 4) (hj : j < 4) : flipTo f k (j + 1) (j * 4 + k) = f (k * 4 + j) := by
  unfold flipTo flipF
  rw [if_pos (by omega)]
  congr 1
  omega
theorem flipTo_not (f : Nat → Int) (k j : Nat) (hk : k < 4) (hj : j < 4) : ∀ i, i ≠ j * 4 + k → flipTo f k (j + 1) i = flipTo f k j i := fun i hi => by
  unfold flipTo
  by_cases c : i % 4 < k ∨ (i % 4 = k ∧ i / 4 < j)
  · rw [if_pos c, if_pos (by omega)]
  · rw [if_neg c, if_neg (by omega)]
theorem flipTo_next (f : Nat → Int) (k : Nat) : arr 16 (flipTo f k 4) = arr 16 (flipTo f (k + 1) 0) := arr_congr fun i hi => by
  unfold flipTo
  by_cases c : i % 4 < k + 1
  · rw [if_pos (by omega), if_pos (by omega)]
  · rw [if_neg (by omega), if_neg (by omega)]
theorem flipTo_full (f : Nat → Int) : arr 16 (flipTo f 4 0) = arr 16 (flipF f) := arr_congr fun i hi => by
  unfold flipTo
  rw [if_pos (by omega)]
set_option maxHeartbeats 400000 in
theorem flipped_any (f : Nat → Int) (w : World) :
    Calls Tryd.prog 122 #[.agg (arr 16 f)] w fun e w' => e = .returned (.agg (arr 16 (flipF f))) ∧ Below w.heap.size w w' := by
  go_enter Tryd.func122, Tryd.ntmps122
  go_wp2_with (refine wpList_load_mid (by rfl) _ _ (by rfl) _ 0 (by rfl) (arr 16 f).toList _ (range_of_arr (((Blk.new w _ _).alloc _).alloc _) 0 16 (by omega)) Tryd.underlying87 (by rfl) (by rw [Array.length_toList, arr_size]; exact size42) ?_)
  generalize hW : World.alloc (World.alloc (World.alloc w _) _) _ = W
  have B1 : Blk W (w.heap.size + 1) (arr 16 (fun _ => 0)) 89 := by rw [← hW]; exact (Blk.new' _ _ (by simp)).alloc _
  have B2 : Blk W (w.heap.size + 1 + 1) (arr 16 (fun _ => 0)) 89 := by rw [← hW]; exact Blk.new' _ _ (by simp)
  have hb0 : Below w.heap.size w W := by rw [← hW]; exact (((Below.refl _ _).alloc (Nat.le_refl _) _).alloc (by simp) _).alloc (by simp; omega) _
  clear hW
  generalize hs : w.heap.size = s at *
  go_loopw [10] (fun i wr => ∃ k : Nat, k ≤ 4 ∧ i = .int .i64 (k : Int) ∧ Blk wr (s + 1) (arr 16 (fun _ => 0)) 89 ∧ Blk wr (s + 1 + 1) (arr 16 (flipTo f k 0)) 89 ∧ Below s w wr) (fun i _ => 4 - (intOf i).toNat)
  case atStart => exact ⟨0, by omega, rfl, B1, B2, hb0⟩
  case round =>
    obtain ⟨k, hk, rfl, b1, b2, hb⟩ := hrel
    clear B1 B2 hb0
    by_cases hlt : k < 4
    · have l0 : (0 : Int) ≤ (k : Int) := by omega
      have l1 : (k : Int) < 4 := by omega
      have hidx : ∀ W, (Instr.index 87 (.agg (arr 16 f)) (.int .i64 (k : Int))).run Tryd.prog W = .ok (.agg (arr 4 (fun i => f (k * 4 + i)))) W := fun W => index_row Tryd.underlying87 size41 (agg41 W) f k hlt rfl
      have hst := run_storeCells_new (P := Tryd.prog) wr 86 #[.int .i64 0, .int .i64 0, .int .i64 0, .int .i64 0] (arr 4 (fun i => f (k * 4 + i))) (by rw [arr_size]; exact size41) (by rw [arr_size]; rfl) (arr_one _ _)
      go_wp2_with (refine wpList_load_mid (by rfl) _ _ (by rfl) _ 0 (by rfl) (arr 4 (fun i => f (k * 4 + i))).toList _ (range_of_arr (Blk.new wr _ _) 0 4 (by omega)) Tryd.underlying86 (by rfl) (by rw [Array.length_toList, arr_size]; exact size41) ?_)
      generalize hV : World.alloc wr _ = V
      have hbV : Below s w V := by rw [← hV]; exact hb.alloc (by rw [← hs]; exact hb.size) _
      have B1 : Blk V (s + 1) (arr 16 (fun _ => 0)) 89 := by rw [← hV]; exact b1.alloc _
      have B2 : Blk V (s + 1 + 1) (arr 16 (flipTo f k 0)) 89 := by rw [← hV]; exact b2.alloc _
      clear hV hidx hst b1 b2 hb
      go_loopw [15] (fun i wr => ∃ j : Nat, j ≤ 4 ∧ i = .int .i64 (j : Int) ∧ Blk wr (s + 1) (arr 16 (fun _ => 0)) 89 ∧ Blk wr (s + 1 + 1) (arr 16 (flipTo f k j)) 89 ∧ Below s w wr) (fun i _ => 4 - (intOf i).toNat)
      case atStart => exact ⟨0, by omega, rfl, B1, B2, hbV⟩
      case round =>
        obtain ⟨j, hj, rfl, b1, b2, hb⟩ := hrel
        clear B1 B2 hbV
        have q0 : (0 : Int) ≤ (j : Int) := by omega
        by_cases hlj : j < 4
        · have q1 : (j : Int) < 4 := by omega
          have hidx : ∀ W, (Instr.index 86 (.agg (arr 4 (fun i => f (k * 4 + i)))) (.int .i64 (j : Int))).run Tryd.prog W = .ok (.int .i64 (f (k * 4 + j))) W := fun W => index_num Tryd.underlying86 size3 (agg3 W) _ j hlj
          have hc : wr.cell? ⟨s + 1 + 1, j * 4 + k, none⟩ = some (.int .i64 (flipTo f k j (j * 4 + k))) := by rw [b2.cell, arr_get _ (by omega)]
          have hf : wr.frozen? ⟨s + 1 + 1, j * 4 + k, none⟩ = false := b2.frozen _
          have hset := b2.set (j * 4 + k) (.int .i64 (f (k * 4 + j))) (by rw [arr_size]; omega)
          rw [arr_set (g := flipTo f k (j + 1)) _ (flipTo_hit f k j hlt hlj) (flipTo_not f k j hlt hlj)] at hset
          have hoth := b1.other ⟨s + 1 + 1, j * 4 + k, none⟩ (.int .i64 (f (k * 4 + j))) (by simp)
          have hbb := hb.setCell (p := ⟨s + 1 + 1, j * 4 + k, none⟩) (by simp; omega) (.int .i64 (f (k * 4 + j)))
          go_wp2_with fail
          refine ⟨⟨j + 1, by omega, by go_num, hoth, hset, hbb⟩, ?_⟩
          simp [intOf]; omega
        · obtain rfl : j = 4 := by omega
          rw [flipTo_next f k] at b2
          go_wp2_with fail
          refine ⟨⟨k + 1, by omega, by go_num, b1, b2, hb⟩, ?_⟩
          simp [intOf]; omega
    · obtain rfl : k = 4 := by omega
      rw [flipTo_full f] at b2
      have HZ : Hid (Blk (wr.setCells (s + 1) 0 (arr 16 (flipF f)).toList) (s + 1) (arr 16 (flipF f)) 89) := arr_store (k := flipF f) b1 0 16 (by omega) (fun i hi => by rw [Nat.zero_add]) (fun i hi h => by omega)
      have hbb := below_setCells (g := s + 1) (by omega) (arr 16 (flipF f)).toList 0 wr hb
      have rg : wr.rangeAt (s + 1 + 1) 0 (arr 16 (flipF f)).toList := by have := range_of_arr b2 0 16 (by omega); simpa only [Nat.zero_add] using this
      have th := there_of_arr b1 0 16 (by omega)
      clear b1 b2 hb hlt hk
      go_wp2_with (first
        | ((with_reducible refine at_load ?_); refine load_arr rfl _ _ rfl (s + 1 + 1) 0 rfl 16 (flipF f) rg Tryd.underlying89 rfl size44 ?_; simp only [Act.put, List.setIfInBounds_toArray, List.set_cons_zero, List.set_cons_succ])
        | ((with_reducible refine at_store ?_); refine store_arr rfl _ _ _ rfl (s + 1) 0 rfl 16 (flipF f) rfl th size44 ?_; clear th rg; generalize World.setCells wr (s + 1) 0 (arr 16 (flipF f)).toList = wz at *))
      refine bodyPost_ret (results_cell_row rfl _ _ (s + 1) 89 _ (0, 0) _ rfl HZ.out Tryd.underlying89 rfl (by rw [arr_size]; exact size44)) rfl ?_
      exact ⟨rfl, by rw [hs]; exact hbb⟩
end Go.Proofs.YtlejfkjanllgbaaDoor

namespace Go.Proofs.YtlejfkjanllgbaaDoor
open Go.RowKit
set_option linter.unusedVariables false

set_option maxHeartbeats 400000 in
theorem half_any (n : Int) (w : World) : Calls Tryd.prog 124 #[.int .i64 n] w fun e w' => e = .returned (.int .i64 (n / 2)) ∧ w' = w := by
  go_enter Tryd.func124, Tryd.ntmps124
  go_wp2
  go_ret
  exact ⟨by simp, rfl⟩
set_option maxHeartbeats 400000 in
theorem down_any (n : Int) (w : World) (h0 : -10000000000 ≤ n) (h1 : n ≤ 10000000000) : Calls Tryd.prog 112 #[.int .i64 n] w fun e w' => e = .returned (.int .i64 ((n + 32) / 64)) ∧ w' = w := by
  go_enter Tryd.func112, Tryd.ntmps112
  go_wp2
  go_ret
  exact ⟨by simp, rfl⟩
set_option maxHeartbeats 800000 in
theorem sums_any (r : Nat → Int) (w : World) (hr : In 100000000 4 r) :
    Calls Tryd.prog 100 #[.agg (arr 4 r)] w fun e w' => e = .returned (.agg (arr 4 (fun j => sumR j (r 0) (r 1) (r 2) (r 3)))) ∧ Below w.heap.size w w' := by
  obtain ⟨a0, a1⟩ := hr 0 (by omega)
  obtain ⟨b0, b1⟩ := hr 1 (by omega)
  obtain ⟨c0, c1⟩ := hr 2 (by omega)
  obtain ⟨d0, d1⟩ := hr 3 (by omega)
  go_enter Tryd.func100, Tryd.ntmps100
  go_wp2_with fail
  generalize hW : World.alloc (World.alloc w _) _ = W
  have B0 : Blk W w.heap.size (arr 4 r) 86 := by rw [← hW]; exact (Blk.new w _ _).alloc _
  have B1 : Blk W (w.heap.size + 1) (arr 4 (fun _ => 0)) 86 := by rw [← hW]; exact Blk.new' _ _ (by simp)
  have hb0 : Below w.heap.size w W := by rw [← hW]; exact ((Below.refl _ _).alloc (Nat.le_refl _) _).alloc (by simp) _
  clear hW
  generalize hs : w.heap.size = s at *
  have e0 : W.cell? ⟨s, 0, none⟩ = some (.int .i64 (r 0)) := by rw [B0.cell, arr_get r (by omega)]
  have e1 : W.cell? ⟨s, 1, none⟩ = some (.int .i64 (r 1)) := by rw [B0.cell, arr_get r (by omega)]
  have e2 : W.cell? ⟨s, 2, none⟩ = some (.int .i64 (r 2)) := by rw [B0.cell, arr_get r (by omega)]
  have e3 : W.cell? ⟨s, 3, none⟩ = some (.int .i64 (r 3)) := by rw [B0.cell, arr_get r (by omega)]
  clear B0
  have th := there_of_arr B1 0 4 (by omega)
  obtain ⟨a, ha⟩ : ∃ a, r 0 = a := ⟨_, rfl⟩
  have HA : Hid (r 0 = a) := ha
  rw [ha] at a0 a1 e0
  clear ha
  obtain ⟨b, hb⟩ : ∃ b, r 1 = b := ⟨_, rfl⟩
  have HB : Hid (r 1 = b) := hb
  rw [hb] at b0 b1 e1
  clear hb
  obtain ⟨c, hc⟩ : ∃ c, r 2 = c := ⟨_, rfl⟩
  have HC : Hid (r 2 = c) := hc
  rw [hc] at c0 c1 e2
  clear hc
  obtain ⟨d, hd⟩ : ∃ d, r 3 = d := ⟨_, rfl⟩
  have HD : Hid (r 3 = d) := hd
  rw [hd] at d0 d1 e3
  clear hd
  have HZ : ∀ W', Blk W' (s + 1) (arr 4 (fun _ => 0)) 86 → Blk (W'.setCells (s + 1) 0 (arr 4 (fun j => sumR j a b c d)).toList) (s + 1) (arr 4 (fun j => sumR j a b c d)) 86 := fun W' h => arr_store h 0 4 (by omega) (fun i hi => by rw [Nat.zero_add]) (fun i hi h => by omega)
  have HH : Hid (∀ W', Blk W' (s + 1) (arr 4 (fun _ => 0)) 86 → Blk (W'.setCells (s + 1) 0 (arr 4 (fun j => sumR j a b c d)).toList) (s + 1) (arr 4 (fun j => sumR j a b c d)) 86) := HZ
  clear HZ
  go_quiet (fail)
  have b1 : Blk (W.drewN nq) (s + 1) (arr 4 (fun _ => 0)) 86 := B1
  have hb1 := below_setCells (g := s + 1) (by omega) (arr 4 (fun j => sumR j a b c d)).toList 0 _ (below_drewN hb0 nq)
  have hz : Hid (Blk ((W.drewN nq).setCells (s + 1) 0 (arr 4 (fun j => sumR j a b c d)).toList) (s + 1) (arr 4 (fun j => sumR j a b c d)) 86) := HH.out _ b1
  have t1 : (W.drewN nq).there (s + 1) 0 4 := there_of_arr b1 0 4 (by omega)
  clear HH B1 hb0 th b1 e0 e1 e2 e3
  go_wp2_with ((with_reducible refine at_store ?_); refine store_arr rfl _ _ _ rfl (s + 1) 0 rfl 4 (fun j => sumR j a b c d) rfl t1 size41 ?_; clear t1; generalize World.setCells (W.drewN nq) (s + 1) 0 (arr 4 (fun j => sumR j a b c d)).toList = wz at *)
  refine bodyPost_ret (results_cell_row rfl _ _ (s + 1) 86 _ (0, 0) _ rfl hz.out Tryd.underlying86 rfl (by rw [arr_size]; exact size41)) rfl ?_
  exact ⟨by rw [HA.out, HB.out, HC.out, HD.out], by rw [hs]; exact hb1⟩
set_option maxHeartbeats 800000 in
theorem baks_any (r : Nat → Int) (w : World) (hr : In 100000000 4 r) :
    Calls Tryd.prog 111 #[.agg (arr 4 r)] w fun e w' => e = .returned (.agg (arr 4 (fun j => bakR j (r 0) (r 1) (r 2) (r 3)))) ∧ Below w.heap.size w w' := by
  obtain ⟨a0, a1⟩ := hr 0 (by omega)
  obtain ⟨b0, b1⟩ := hr 1 (by omega)
  obtain ⟨c0, c1⟩ := hr 2 (by omega)
  obtain ⟨d0, d1⟩ := hr 3 (by omega)
  go_enter Tryd.func111, Tryd.ntmps111
  go_wp2_with fail
  generalize hW : World.alloc (World.alloc w _) _ = W
  have B0 : Blk W w.heap.size (arr 4 r) 86 := by rw [← hW]; exact (Blk.new w _ _).alloc _
  have B1 : Blk W (w.heap.size + 1) (arr 4 (fun _ => 0)) 86 := by rw [← hW]; exact Blk.new' _ _ (by simp)
  have hb0 : Below w.heap.size w W := by rw [← hW]; exact ((Below.refl _ _).alloc (Nat.le_refl _) _).alloc (by simp) _
  clear hW
  generalize hs : w.heap.size = s at *
  have e0 : W.cell? ⟨s, 0, none⟩ = some (.int .i64 (r 0)) := by rw [B0.cell, arr_get r (by omega)]
  have e1 : W.cell? ⟨s, 1, none⟩ = some (.int .i64 (r 1)) := by rw [B0.cell, arr_get r (by omega)]
  have e2 : W.cell? ⟨s, 2, none⟩ = some (.int .i64 (r 2)) := by rw [B0.cell, arr_get r (by omega)]
  have e3 : W.cell? ⟨s, 3, none⟩ = some (.int .i64 (r 3)) := by rw [B0.cell, arr_get r (by omega)]
  clear B0
  have th := there_of_arr B1 0 4 (by omega)
  obtain ⟨a, ha⟩ : ∃ a, r 0 = a := ⟨_, rfl⟩
  have HA : Hid (r 0 = a) := ha
  rw [ha] at a0 a1 e0
  clear ha
  obtain ⟨b, hb⟩ : ∃ b, r 1 = b := ⟨_, rfl⟩
  have HB : Hid (r 1 = b) := hb
  rw [hb] at b0 b1 e1
  clear hb
  obtain ⟨c, hc⟩ : ∃ c, r 2 = c := ⟨_, rfl⟩
  have HC : Hid (r 2 = c) := hc
  rw [hc] at c0 c1 e2
  clear hc
  obtain ⟨d, hd⟩ : ∃ d, r 3 = d := ⟨_, rfl⟩
  have HD : Hid (r 3 = d) := hd
  rw [hd] at d0 d1 e3
  clear hd
  have HZ : ∀ W', Blk W' (s + 1) (arr 4 (fun _ => 0)) 86 → Blk (W'.setCells (s + 1) 0 (arr 4 (fun j => bakR j a b c d)).toList) (s + 1) (arr 4 (fun j => bakR j a b c d)) 86 := fun W' h => arr_store h 0 4 (by omega) (fun i hi => by rw [Nat.zero_add]) (fun i hi h => by omega)
  have HH : Hid (∀ W', Blk W' (s + 1) (arr 4 (fun _ => 0)) 86 → Blk (W'.setCells (s + 1) 0 (arr 4 (fun j => bakR j a b c d)).toList) (s + 1) (arr 4 (fun j => bakR j a b c d)) 86) := HZ
  clear HZ
  go_quiet (fail)
  have b1 : Blk (W.drewN nq) (s + 1) (arr 4 (fun _ => 0)) 86 := B1
  have hb1 := below_setCells (g := s + 1) (by omega) (arr 4 (fun j => bakR j a b c d)).toList 0 _ (below_drewN hb0 nq)
  have hz : Hid (Blk ((W.drewN nq).setCells (s + 1) 0 (arr 4 (fun j => bakR j a b c d)).toList) (s + 1) (arr 4 (fun j => bakR j a b c d)) 86) := HH.out _ b1
  have t1 : (W.drewN nq).there (s + 1) 0 4 := there_of_arr b1 0 4 (by omega)
  clear HH B1 hb0 th b1 e0 e1 e2 e3
  go_wp2_with (first | (go_at_call 124; refine (half_any _ _).mono ?_; rintro e w1 ⟨rfl, hw⟩; subst w1) | ((with_reducible refine at_store ?_); refine store_arr rfl _ _ _ rfl (s + 1) 0 rfl 4 (fun j => bakR j a b c d) rfl t1 size41 ?_; clear t1; generalize World.setCells (W.drewN nq) (s + 1) 0 (arr 4 (fun j => bakR j a b c d)).toList = wz at *))
  refine bodyPost_ret (results_cell_row rfl _ _ (s + 1) 86 _ (0, 0) _ rfl hz.out Tryd.underlying86 rfl (by rw [arr_size]; exact size41)) rfl ?_
  exact ⟨by rw [HA.out, HB.out, HC.out, HD.out], by rw [hs]; exact hb1⟩
end Go.Proofs.YtlejfkjanllgbaaDoor

namespace Go.Proofs.YtlejfkjanllgbaaDoor
open Go.RowKit
set_option linter.unusedVariables false

/-- The first k rows are turned. -/
def rowsTo (T : Nat → Int → Int → Int → Int → Int) (f : Nat → Int) (k i : Nat) : Int := if i < 4 * k then rowsF T f i else 0
theorem rowsTo_none (T : Nat → Int → Int → Int → Int → Int) (f : Nat → Int) : arr 16 (rowsTo T f 0) = arr 16 (fun _ => 0) := arr_congr fun i hi => by
  unfold rowsTo
  rw [if_neg (by omega)]
theorem rowsTo_full (T : Nat → Int → Int → Int → Int → Int) (f : Nat → Int) : arr 16 (rowsTo T f 4) = arr 16 (rowsF T f) := arr_congr fun i hi => by
  unfold rowsTo
  rw [if_pos (by omega)]

set_option maxHeartbeats 1600000 in
theorem sums_rows (f : Nat → Int) (w : World) (hf : In 100000000 16 f) :
    Calls Tryd.prog 121 #[.agg (arr 16 f), .func (Fn.func 100) #[] #[]] w fun e w' => e = .returned (.agg (arr 16 (rowsF sumR f))) ∧ Below w.heap.size w w' := by
  have HC : Hid (∀ w' (r : Nat → Int), In 100000000 4 r → Calls Tryd.prog 100 #[.agg (arr 4 r)] w' (fun e w'' => e = .returned (.agg (arr 4 (fun j => sumR j (r 0) (r 1) (r 2) (r 3)))) ∧ Below w'.heap.size w' w'')) := fun w' r hr => sums_any r w' hr
  go_enter Tryd.func121, Tryd.ntmps121
  go_wp2_with ((with_reducible refine at_load ?_); refine load_arr rfl _ _ rfl _ 0 rfl 16 f (range_all (((Blk.new w _ _).alloc _).alloc _)) Tryd.underlying87 rfl size42 ?_; simp only [Act.put, List.setIfInBounds_toArray, List.set_cons_zero, List.set_cons_succ])
  generalize hW : World.alloc (World.alloc (World.alloc w _) _) _ = W
  have B0 : Blk W w.heap.size (arr 16 f) 89 := by rw [← hW]; exact ((Blk.new w _ _).alloc _).alloc _
  have B1 : Blk W (w.heap.size + 1) (arr 16 (fun _ => 0)) 89 := by rw [← hW]; exact (Blk.new' _ _ (by simp)).alloc _
  have B2 : Blk W (w.heap.size + 1 + 1) (arr 16 (fun _ => 0)) 89 := by rw [← hW]; exact Blk.new' _ _ (by simp)
  have hb0 : Below w.heap.size w W := by rw [← hW]; exact (((Below.refl _ _).alloc (Nat.le_refl _) _).alloc (by simp) _).alloc (by simp; omega) _
  clear hW
  generalize hs : w.heap.size = s at *
  go_loopw [10] (fun i wr => ∃ k : Nat, k ≤ 4 ∧ i = .int .i64 (k : Int) ∧ Blk wr s (arr 16 f) 89 ∧ Blk wr (s + 1) (arr 16 (fun _ => 0)) 89 ∧ Blk wr (s + 1 + 1) (arr 16 (rowsTo sumR f k)) 89 ∧ Below s w wr) (fun i _ => 4 - (intOf i).toNat)
  case atStart => exact ⟨0, by omega, rfl, B0, B1, by rw [rowsTo_none]; exact B2, hb0⟩
  case round =>
    obtain ⟨k, hk, rfl, b0, b1, b2, hb⟩ := hrel
    clear B0 B1 B2 hb0
    by_cases hlt : k < 4
    · have l0 : (0 : Int) ≤ (k : Int) := by omega
      have l1 : (k : Int) < 4 := by omega
      have hidx : ∀ W, (Instr.index 87 (.agg (arr 16 f)) (.int .i64 (k : Int))).run Tryd.prog W = .ok (.agg (arr 4 (fun i => f (k * 4 + i)))) W := fun W => index_row Tryd.underlying87 size41 (agg41 W) f k hlt rfl
      have hst := run_storeCells_new (P := Tryd.prog) wr 86 #[.int .i64 0, .int .i64 0, .int .i64 0, .int .i64 0] (arr 4 (fun i => f (k * 4 + i))) (by rw [arr_size]; exact size41) (by rw [arr_size]; rfl) (arr_one _ _)
      go_wp2_with fail
      generalize hV : World.alloc wr _ = V
      have hbV : Below s w V := by rw [← hV]; exact hb.alloc (by rw [← hs]; exact hb.size) _
      have B0 : Blk V s (arr 16 f) 89 := by rw [← hV]; exact b0.alloc _
      have B1 : Blk V (s + 1) (arr 16 (fun _ => 0)) 89 := by rw [← hV]; exact b1.alloc _
      have B2 : Blk V (s + 1 + 1) (arr 16 (rowsTo sumR f k)) 89 := by rw [← hV]; exact b2.alloc _
      have B3 : Blk V wr.heap.size (arr 4 (fun i => f (k * 4 + i))) 86 := by rw [← hV]; exact Blk.new wr _ _
      clear hV hidx hst b0 b1 b2 hb
      generalize wr.heap.size = r at *
      obtain ⟨ρ, hρ⟩ : ∃ ρ : Nat → Int, ρ = fun i => f (k * 4 + i) := ⟨_, rfl⟩
      obtain ⟨τ, hτ⟩ : ∃ τ : Nat → Int, τ = fun j => sumR j (ρ 0) (ρ 1) (ρ 2) (ρ 3) := ⟨_, rfl⟩
      have HK : Hid (∀ w', Calls Tryd.prog 100 #[.agg (arr 4 ρ)] w' (fun e w'' => e = .returned (.agg (arr 4 τ)) ∧ Below w'.heap.size w' w'')) := fun w' => by
        rw [hτ]
        exact HC.out w' ρ (by rw [hρ]; exact fun i hi => hf _ (by omega))
      have HT : Hid (∀ W', Blk W' (s + 1 + 1) (arr 16 (rowsTo sumR f k)) 89 → Blk (W'.setCells (s + 1 + 1) (k * 4) (arr 4 τ).toList) (s + 1 + 1) (arr 16 (rowsTo sumR f (k + 1))) 89) := fun W' h => by
        refine arr_store h (k * 4) 4 (by omega) (fun i hi => ?_) (fun i hi ho => ?_)
        · unfold rowsTo
          rw [if_pos (by omega), Nat.mul_comm, rowsF_at _ _ _ _ hi, hτ, hρ, Nat.mul_comm k 4]
          rfl
        · unfold rowsTo
          by_cases c : i < 4 * k
          · rw [if_pos (by omega), if_pos c]
          · rw [if_neg (by omega), if_neg c]
      rw [← hρ] at B3
      clear HC
      rcases k with _ | p
      · clear hρ hτ
        go_quiet (fail)
        have b3 : Blk (V.drewN nq) r (arr 4 ρ) 86 := B3
        have hbq := below_drewN hbV nq
        have b0 : Blk (V.drewN nq) s (arr 16 f) 89 := B0
        have b1 : Blk (V.drewN nq) (s + 1) (arr 16 (fun _ => 0)) 89 := B1
        have b2 : Blk (V.drewN nq) (s + 1 + 1) (arr 16 (rowsTo sumR f 0)) 89 := B2
        clear B0 B1 B2 B3 hbV
        generalize V.drewN nq = U at *
        go_wp2_with (first
          | ((with_reducible refine at_load ?_); refine load_arr rfl _ _ rfl r 0 rfl 4 ρ (range_all b3) Tryd.underlying86 rfl size41 ?_; simp only [Act.put, List.setIfInBounds_toArray, List.set_cons_zero, List.set_cons_succ])
          | (go_at_call 100; refine (HK.out _).mono ?_; rintro e w2 ⟨rfl, hc2⟩)
          | ((with_reducible refine at_store ?_); refine store_arr rfl _ _ _ rfl (s + 1 + 1) (0 * 4) rfl 4 τ rfl (there_of_arr (b2.below hc2 b2.lt) (0 * 4) 4 (by omega)) size41 ?_))
        have hsz : s ≤ U.heap.size := by rw [← hs]; exact hbq.size
        have z2 := HT.out w2 (b2.below hc2 b2.lt)
        have z1 := Blk.others (show s + 1 ≠ s + 1 + 1 by omega) (arr 4 τ).toList (0 * 4) (b1.below hc2 b1.lt)
        have z0 := Blk.others (show s ≠ s + 1 + 1 by omega) (arr 4 τ).toList (0 * 4) (b0.below hc2 b0.lt)
        have zb := below_setCells (g := s + 1 + 1) (by omega) (arr 4 τ).toList (0 * 4) w2 (hbq.trans (hc2.mono hsz))
        refine ⟨⟨1, by omega, rfl, z0, z1, z2, zb⟩, ?_⟩
        simp [intOf]
      · have hpc : ((p + 1 : Nat) : Int) = (p : Int) + 1 := by omega
        have HS : Hid (∀ W' : World, Blk W' (s + 1 + 1) (arr 16 (rowsTo sumR f (p + 1))) 89 → (∀ i, i < 4 → ρ i = f (p * 4 + i)) → W'.rangeAt (s + 1 + 1) (p * 4) (arr 4 τ).toList) := fun W' h he => by
          have e := range_of_arr h (p * 4) 4 (by omega)
          rwa [arr_congr (g := τ) (fun i hi => by
            unfold rowsTo
            rw [if_pos (by omega), Nat.mul_comm p 4, rowsF_at _ _ _ _ hi, hτ]
            simp only [he 0 (by omega), he 1 (by omega), he 2 (by omega), he 3 (by omega)]
            rw [Nat.mul_comm p 4]
            rfl)] at e
        clear hρ hτ
        have d0 : V.cell? ⟨r, 0, none⟩ = some (.int .i64 (ρ 0)) := by rw [B3.cell, arr_get ρ (by omega)]
        have d1 : V.cell? ⟨r, 1, none⟩ = some (.int .i64 (ρ 1)) := by rw [B3.cell, arr_get ρ (by omega)]
        have d2 : V.cell? ⟨r, 2, none⟩ = some (.int .i64 (ρ 2)) := by rw [B3.cell, arr_get ρ (by omega)]
        have d3 : V.cell? ⟨r, 3, none⟩ = some (.int .i64 (ρ 3)) := by rw [B3.cell, arr_get ρ (by omega)]
        have g0 : V.cell? ⟨s, p * 4, none⟩ = some (.int .i64 (f (p * 4 + 0))) := by rw [B0.cell, arr_get f (by omega)]; rfl
        have g1 : V.cell? ⟨s, p * 4 + 1, none⟩ = some (.int .i64 (f (p * 4 + 1))) := by rw [B0.cell, arr_get f (by omega)]
        have g2 : V.cell? ⟨s, p * 4 + 2, none⟩ = some (.int .i64 (f (p * 4 + 2))) := by rw [B0.cell, arr_get f (by omega)]
        have g3 : V.cell? ⟨s, p * 4 + 3, none⟩ = some (.int .i64 (f (p * 4 + 3))) := by rw [B0.cell, arr_get f (by omega)]
        have heq : ∀ W : World, (Op.equalIn 10000 86 (.agg (arr 4 ρ)) (.agg (arr 4 (fun i => f (p * 4 + i))))).run Tryd.prog W = .ok ((List.range 4).all (fun i => ρ i == f (p * 4 + i))) W := fun W => eq_nums W 9998 86 3 4 .i64 Tryd.underlying86 size3 (agg3 W) Tryd.underlying3 _ _
        rw [show arr 4 ρ = #[.int .i64 (ρ 0), .int .i64 (ρ 1), .int .i64 (ρ 2), .int .i64 (ρ 3)] from rfl, show arr 4 (fun i => f (p * 4 + i)) = #[.int .i64 (f (p * 4 + 0)), .int .i64 (f (p * 4 + 1)), .int .i64 (f (p * 4 + 2)), .int .i64 (f (p * 4 + 3))] from rfl] at heq
        have q0 : (0 : Int) ≤ (p : Int) := by omega
        have q1 : (p : Int) < 3 := by omega
        have hpos : (0 : Int) < ((p + 1 : Nat) : Int) := by omega
        rw [hpc] at l0 l1 hpos
        cases hbb : (List.range 4).all (fun i => ρ i == f (p * 4 + i)) with
        | true =>
          have HE : Hid (∀ i, i < 4 → ρ i = f (p * 4 + i)) := all_eq_iff.1 hbb
          rw [hbb] at heq
          clear hbb
          generalize f (p * 4 + 0) = y0 at *
          generalize f (p * 4 + 1) = y1 at *
          generalize f (p * 4 + 2) = y2 at *
          generalize f (p * 4 + 3) = y3 at *
          generalize ρ 0 = x0 at *
          generalize ρ 1 = x1 at *
          generalize ρ 2 = x2 at *
          generalize ρ 3 = x3 at *
          rw [hpc]
          go_quiet (fail)
          have b0 : Blk (V.drewN nq) s (arr 16 f) 89 := B0
          have b1 : Blk (V.drewN nq) (s + 1) (arr 16 (fun _ => 0)) 89 := B1
          have b2 : Blk (V.drewN nq) (s + 1 + 1) (arr 16 (rowsTo sumR f (p + 1))) 89 := B2
          have hbq := below_drewN hbV nq
          clear B0 B1 B2 B3 hbV d0 d1 d2 d3 g0 g1 g2 g3 heq
          generalize V.drewN nq = U at *
          have rg := HS.out U b2 HE.out
          have th := there_of_arr b2 ((p + 1) * 4) 4 (by omega)
          go_wp2_with (first
            | ((with_reducible refine at_load ?_); refine load_arr rfl _ _ rfl (s + 1 + 1) (p * 4) rfl 4 τ rg Tryd.underlying86 rfl size41 ?_; simp only [Act.put, List.setIfInBounds_toArray, List.set_cons_zero, List.set_cons_succ])
            | ((with_reducible refine at_store ?_); refine store_arr rfl _ _ _ rfl (s + 1 + 1) ((p + 1) * 4) rfl 4 τ rfl th size41 ?_))
          have z2 := HT.out U b2
          have z1 := Blk.others (show s + 1 ≠ s + 1 + 1 by omega) (arr 4 τ).toList ((p + 1) * 4) b1
          have z0 := Blk.others (show s ≠ s + 1 + 1 by omega) (arr 4 τ).toList ((p + 1) * 4) b0
          have zb := below_setCells (g := s + 1 + 1) (by omega) (arr 4 τ).toList ((p + 1) * 4) U hbq
          refine ⟨⟨p + 1 + 1, by omega, by go_num, z0, z1, z2, zb⟩, ?_⟩
          simp [intOf]; omega
        | false =>
          rw [hbb] at heq
          clear hbb HS
          generalize f (p * 4 + 0) = y0 at *
          generalize f (p * 4 + 1) = y1 at *
          generalize f (p * 4 + 2) = y2 at *
          generalize f (p * 4 + 3) = y3 at *
          generalize ρ 0 = x0 at *
          generalize ρ 1 = x1 at *
          generalize ρ 2 = x2 at *
          generalize ρ 3 = x3 at *
          rw [hpc]
          go_quiet (fail)
          have b3 : Blk (V.drewN nq) r (arr 4 ρ) 86 := B3
          have hbq := below_drewN hbV nq
          have b0 : Blk (V.drewN nq) s (arr 16 f) 89 := B0
          have b1 : Blk (V.drewN nq) (s + 1) (arr 16 (fun _ => 0)) 89 := B1
          have b2 : Blk (V.drewN nq) (s + 1 + 1) (arr 16 (rowsTo sumR f (p + 1))) 89 := B2
          clear B0 B1 B2 B3 hbV d0 d1 d2 d3 g0 g1 g2 g3 heq
          generalize V.drewN nq = U at *
          go_wp2_with (first
            | ((with_reducible refine at_load ?_); refine load_arr rfl _ _ rfl r 0 rfl 4 ρ (range_all b3) Tryd.underlying86 rfl size41 ?_; simp only [Act.put, List.setIfInBounds_toArray, List.set_cons_zero, List.set_cons_succ])
            | (go_at_call 100; refine (HK.out _).mono ?_; rintro e w2 ⟨rfl, hc2⟩)
            | ((with_reducible refine at_store ?_); refine store_arr rfl _ _ _ rfl (s + 1 + 1) ((p + 1) * 4) rfl 4 τ rfl (there_of_arr (b2.below hc2 b2.lt) ((p + 1) * 4) 4 (by omega)) size41 ?_))
          have hsz : s ≤ U.heap.size := by rw [← hs]; exact hbq.size
          have z2 := HT.out w2 (b2.below hc2 b2.lt)
          have z1 := Blk.others (show s + 1 ≠ s + 1 + 1 by omega) (arr 4 τ).toList ((p + 1) * 4) (b1.below hc2 b1.lt)
          have z0 := Blk.others (show s ≠ s + 1 + 1 by omega) (arr 4 τ).toList ((p + 1) * 4) (b0.below hc2 b0.lt)
          have zb := below_setCells (g := s + 1 + 1) (by omega) (arr 4 τ).toList ((p + 1) * 4) w2 (hbq.trans (hc2.mono hsz))
          refine ⟨⟨p + 1 + 1, by omega, by go_num, z0, z1, z2, zb⟩, ?_⟩
          simp [intOf]; omega
    · obtain rfl : k = 4 := by omega
      rw [rowsTo_full] at b2
      obtain ⟨ρ, hρ⟩ : ∃ ρ, ρ = rowsF sumR f := ⟨_, rfl⟩
      have HR : Hid (rowsF sumR f = ρ) := hρ.symm
      rw [← hρ] at b2
      clear hρ HC
      have HZ : Hid (Blk (wr.setCells (s + 1) 0 (arr 16 ρ).toList) (s + 1) (arr 16 ρ) 89) := arr_store (k := ρ) b1 0 16 (by omega) (fun i hi => by rw [Nat.zero_add]) (fun i hi h => by omega)
      have hbb := below_setCells (g := s + 1) (by omega) (arr 16 ρ).toList 0 wr hb
      have rg := range_all b2
      have th := there_of_arr b1 0 16 (by omega)
      clear b0 b1 b2 hb hlt hk
      go_wp2_with (first
        | ((with_reducible refine at_load ?_); refine load_arr rfl _ _ rfl (s + 1 + 1) 0 rfl 16 ρ rg Tryd.underlying89 rfl size44 ?_; simp only [Act.put, List.setIfInBounds_toArray, List.set_cons_zero, List.set_cons_succ])
        | ((with_reducible refine at_store ?_); refine store_arr rfl _ _ _ rfl (s + 1) 0 rfl 16 ρ rfl th size44 ?_; clear th rg; generalize World.setCells wr (s + 1) 0 (arr 16 ρ).toList = wz at *))
      refine bodyPost_ret (results_cell_row rfl _ _ (s + 1) 89 _ (0, 0) _ rfl HZ.out Tryd.underlying89 rfl (by rw [arr_size]; exact size44)) rfl ?_
      exact ⟨by rw [HR.out], by rw [hs]; exact hbb⟩
set_option maxHeartbeats 1600000 in
theorem baks_rows (f : Nat → Int) (w : World) (hf : In 100000000 16 f) :
    Calls Tryd.prog 121 #[.agg (arr 16 f), .func (Fn.func 111) #[] #[]] w fun e w' => e = .returned (.agg (arr 16 (rowsF bakR f))) ∧ Below w.heap.size w w' := by
  have HC : Hid (∀ w' (r : Nat → Int), In 100000000 4 r → Calls Tryd.prog 111 #[.agg (arr 4 r)] w' (fun e w'' => e = .returned (.agg (arr 4 (fun j => bakR j (r 0) (r 1) (r 2) (r 3)))) ∧ Below w'.heap.size w' w'')) := fun w' r hr => baks_any r w' hr
  go_enter Tryd.func121, Tryd.ntmps121
  go_wp2_with ((with_reducible refine at_load ?_); refine load_arr rfl _ _ rfl _ 0 rfl 16 f (range_all (((Blk.new w _ _).alloc _).alloc _)) Tryd.underlying87 rfl size42 ?_; simp only [Act.put, List.setIfInBounds_toArray, List.set_cons_zero, List.set_cons_succ])
  generalize hW : World.alloc (World.alloc (World.alloc w _) _) _ = W
  have B0 : Blk W w.heap.size (arr 16 f) 89 := by rw [← hW]; exact ((Blk.new w _ _).alloc _).alloc _
  have B1 : Blk W (w.heap.size + 1) (arr 16 (fun _ => 0)) 89 := by rw [← hW]; exact (Blk.new' _ _ (by simp)).alloc _
  have B2 : Blk W (w.heap.size + 1 + 1) (arr 16 (fun _ => 0)) 89 := by rw [← hW]; exact Blk.new' _ _ (by simp)
  have hb0 : Below w.heap.size w W := by rw [← hW]; exact (((Below.refl _ _).alloc (Nat.le_refl _) _).alloc (by simp) _).alloc (by simp; omega) _
  clear hW
  generalize hs : w.heap.size = s at *
  go_loopw [10] (fun i wr => ∃ k : Nat, k ≤ 4 ∧ i = .int .i64 (k : Int) ∧ Blk wr s (arr 16 f) 89 ∧ Blk wr (s + 1) (arr 16 (fun _ => 0)) 89 ∧ Blk wr (s + 1 + 1) (arr 16 (rowsTo bakR f k)) 89 ∧ Below s w wr) (fun i _ => 4 - (intOf i).toNat)
  case atStart => exact ⟨0, by omega, rfl, B0, B1, by rw [rowsTo_none]; exact B2, hb0⟩
  case round =>
    obtain ⟨k, hk, rfl, b0, b1, b2, hb⟩ := hrel
    clear B0 B1 B2 hb0
    by_cases hlt : k < 4
    · have l0 : (0 : Int) ≤ (k : Int) := by omega
      have l1 : (k : Int) < 4 := by omega
      have hidx : ∀ W, (Instr.index 87 (.agg (arr 16 f)) (.int .i64 (k : Int))).run Tryd.prog W = .ok (.agg (arr 4 (fun i => f (k * 4 + i)))) W := fun W => index_row Tryd.underlying87 size41 (agg41 W) f k hlt rfl
      have hst := run_storeCells_new (P := Tryd.prog) wr 86 #[.int .i64 0, .int .i64 0, .int .i64 0, .int .i64 0] (arr 4 (fun i => f (k * 4 + i))) (by rw [arr_size]; exact size41) (by rw [arr_size]; rfl) (arr_one _ _)
      go_wp2_with fail
      generalize hV : World.alloc wr _ = V
      have hbV : Below s w V := by rw [← hV]; exact hb.alloc (by rw [← hs]; exact hb.size) _
      have B0 : Blk V s (arr 16 f) 89 := by rw [← hV]; exact b0.alloc _
      have B1 : Blk V (s + 1) (arr 16 (fun _ => 0)) 89 := by rw [← hV]; exact b1.alloc _
      have B2 : Blk V (s + 1 + 1) (arr 16 (rowsTo bakR f k)) 89 := by rw [← hV]; exact b2.alloc _
      have B3 : Blk V wr.heap.size (arr 4 (fun i => f (k * 4 + i))) 86 := by rw [← hV]; exact Blk.new wr _ _
      clear hV hidx hst b0 b1 b2 hb
      generalize wr.heap.size = r at *
      obtain ⟨ρ, hρ⟩ : ∃ ρ : Nat → Int, ρ = fun i => f (k * 4 + i) := ⟨_, rfl⟩
      obtain ⟨τ, hτ⟩ : ∃ τ : Nat → Int, τ = fun j => bakR j (ρ 0) (ρ 1) (ρ 2) (ρ 3) := ⟨_, rfl⟩
      have HK : Hid (∀ w', Calls Tryd.prog 111 #[.agg (arr 4 ρ)] w' (fun e w'' => e = .returned (.agg (arr 4 τ)) ∧ Below w'.heap.size w' w'')) := fun w' => by
        rw [hτ]
        exact HC.out w' ρ (by rw [hρ]; exact fun i hi => hf _ (by omega))
      have HT : Hid (∀ W', Blk W' (s + 1 + 1) (arr 16 (rowsTo bakR f k)) 89 → Blk (W'.setCells (s + 1 + 1) (k * 4) (arr 4 τ).toList) (s + 1 + 1) (arr 16 (rowsTo bakR f (k + 1))) 89) := fun W' h => by
        refine arr_store h (k * 4) 4 (by omega) (fun i hi => ?_) (fun i hi ho => ?_)
        · unfold rowsTo
          rw [if_pos (by omega), Nat.mul_comm, rowsF_at _ _ _ _ hi, hτ, hρ, Nat.mul_comm k 4]
          rfl
        · unfold rowsTo
          by_cases c : i < 4 * k
          · rw [if_pos (by omega), if_pos c]
          · rw [if_neg (by omega), if_neg c]
      rw [← hρ] at B3
      clear HC
      rcases k with _ | p
      · clear hρ hτ
        go_quiet (fail)
        have b3 : Blk (V.drewN nq) r (arr 4 ρ) 86 := B3
        have hbq := below_drewN hbV nq
        have b0 : Blk (V.drewN nq) s (arr 16 f) 89 := B0
        have b1 : Blk (V.drewN nq) (s + 1) (arr 16 (fun _ => 0)) 89 := B1
        have b2 : Blk (V.drewN nq) (s + 1 + 1) (arr 16 (rowsTo bakR f 0)) 89 := B2
        clear B0 B1 B2 B3 hbV
        generalize V.drewN nq = U at *
        go_wp2_with (first
          | ((with_reducible refine at_load ?_); refine load_arr rfl _ _ rfl r 0 rfl 4 ρ (range_all b3) Tryd.underlying86 rfl size41 ?_; simp only [Act.put, List.setIfInBounds_toArray, List.set_cons_zero, List.set_cons_succ])
          | (go_at_call 111; refine (HK.out _).mono ?_; rintro e w2 ⟨rfl, hc2⟩)
          | ((with_reducible refine at_store ?_); refine store_arr rfl _ _ _ rfl (s + 1 + 1) (0 * 4) rfl 4 τ rfl (there_of_arr (b2.below hc2 b2.lt) (0 * 4) 4 (by omega)) size41 ?_))
        have hsz : s ≤ U.heap.size := by rw [← hs]; exact hbq.size
        have z2 := HT.out w2 (b2.below hc2 b2.lt)
        have z1 := Blk.others (show s + 1 ≠ s + 1 + 1 by omega) (arr 4 τ).toList (0 * 4) (b1.below hc2 b1.lt)
        have z0 := Blk.others (show s ≠ s + 1 + 1 by omega) (arr 4 τ).toList (0 * 4) (b0.below hc2 b0.lt)
        have zb := below_setCells (g := s + 1 + 1) (by omega) (arr 4 τ).toList (0 * 4) w2 (hbq.trans (hc2.mono hsz))
        refine ⟨⟨1, by omega, rfl, z0, z1, z2, zb⟩, ?_⟩
        simp [intOf]
      · have hpc : ((p + 1 : Nat) : Int) = (p : Int) + 1 := by omega
        have HS : Hid (∀ W' : World, Blk W' (s + 1 + 1) (arr 16 (rowsTo bakR f (p + 1))) 89 → (∀ i, i < 4 → ρ i = f (p * 4 + i)) → W'.rangeAt (s + 1 + 1) (p * 4) (arr 4 τ).toList) := fun W' h he => by
          have e := range_of_arr h (p * 4) 4 (by omega)
          rwa [arr_congr (g := τ) (fun i hi => by
            unfold rowsTo
            rw [if_pos (by omega), Nat.mul_comm p 4, rowsF_at _ _ _ _ hi, hτ]
            simp only [he 0 (by omega), he 1 (by omega), he 2 (by omega), he 3 (by omega)]
            rw [Nat.mul_comm p 4]
            rfl)] at e
        clear hρ hτ
        have d0 : V.cell? ⟨r, 0, none⟩ = some (.int .i64 (ρ 0)) := by rw [B3.cell, arr_get ρ (by omega)]
        have d1 : V.cell? ⟨r, 1, none⟩ = some (.int .i64 (ρ 1)) := by rw [B3.cell, arr_get ρ (by omega)]
        have d2 : V.cell? ⟨r, 2, none⟩ = some (.int .i64 (ρ 2)) := by rw [B3.cell, arr_get ρ (by omega)]
        have d3 : V.cell? ⟨r, 3, none⟩ = some (.int .i64 (ρ 3)) := by rw [B3.cell, arr_get ρ (by omega)]
        have g0 : V.cell? ⟨s, p * 4, none⟩ = some (.int .i64 (f (p * 4 + 0))) := by rw [B0.cell, arr_get f (by omega)]; rfl
        have g1 : V.cell? ⟨s, p * 4 + 1, none⟩ = some (.int .i64 (f (p * 4 + 1))) := by rw [B0.cell, arr_get f (by omega)]
        have g2 : V.cell? ⟨s, p * 4 + 2, none⟩ = some (.int .i64 (f (p * 4 + 2))) := by rw [B0.cell, arr_get f (by omega)]
        have g3 : V.cell? ⟨s, p * 4 + 3, none⟩ = some (.int .i64 (f (p * 4 + 3))) := by rw [B0.cell, arr_get f (by omega)]
        have heq : ∀ W : World, (Op.equalIn 10000 86 (.agg (arr 4 ρ)) (.agg (arr 4 (fun i => f (p * 4 + i))))).run Tryd.prog W = .ok ((List.range 4).all (fun i => ρ i == f (p * 4 + i))) W := fun W => eq_nums W 9998 86 3 4 .i64 Tryd.underlying86 size3 (agg3 W) Tryd.underlying3 _ _
        rw [show arr 4 ρ = #[.int .i64 (ρ 0), .int .i64 (ρ 1), .int .i64 (ρ 2), .int .i64 (ρ 3)] from rfl, show arr 4 (fun i => f (p * 4 + i)) = #[.int .i64 (f (p * 4 + 0)), .int .i64 (f (p * 4 + 1)), .int .i64 (f (p * 4 + 2)), .int .i64 (f (p * 4 + 3))] from rfl] at heq
        have q0 : (0 : Int) ≤ (p : Int) := by omega
        have q1 : (p : Int) < 3 := by omega
        have hpos : (0 : Int) < ((p + 1 : Nat) : Int) := by omega
        rw [hpc] at l0 l1 hpos
        cases hbb : (List.range 4).all (fun i => ρ i == f (p * 4 + i)) with
        | true =>
          have HE : Hid (∀ i, i < 4 → ρ i = f (p * 4 + i)) := all_eq_iff.1 hbb
          rw [hbb] at heq
          clear hbb
          generalize f (p * 4 + 0) = y0 at *
          generalize f (p * 4 + 1) = y1 at *
          generalize f (p * 4 + 2) = y2 at *
          generalize f (p * 4 + 3) = y3 at *
          generalize ρ 0 = x0 at *
          generalize ρ 1 = x1 at *
          generalize ρ 2 = x2 at *
          generalize ρ 3 = x3 at *
          rw [hpc]
          go_quiet (fail)
          have b0 : Blk (V.drewN nq) s (arr 16 f) 89 := B0
          have b1 : Blk (V.drewN nq) (s + 1) (arr 16 (fun _ => 0)) 89 := B1
          have b2 : Blk (V.drewN nq) (s + 1 + 1) (arr 16 (rowsTo bakR f (p + 1))) 89 := B2
          have hbq := below_drewN hbV nq
          clear B0 B1 B2 B3 hbV d0 d1 d2 d3 g0 g1 g2 g3 heq
          generalize V.drewN nq = U at *
          have rg := HS.out U b2 HE.out
          have th := there_of_arr b2 ((p + 1) * 4) 4 (by omega)
          go_wp2_with (first
            | ((with_reducible refine at_load ?_); refine load_arr rfl _ _ rfl (s + 1 + 1) (p * 4) rfl 4 τ rg Tryd.underlying86 rfl size41 ?_; simp only [Act.put, List.setIfInBounds_toArray, List.set_cons_zero, List.set_cons_succ])
            | ((with_reducible refine at_store ?_); refine store_arr rfl _ _ _ rfl (s + 1 + 1) ((p + 1) * 4) rfl 4 τ rfl th size41 ?_))
          have z2 := HT.out U b2
          have z1 := Blk.others (show s + 1 ≠ s + 1 + 1 by omega) (arr 4 τ).toList ((p + 1) * 4) b1
          have z0 := Blk.others (show s ≠ s + 1 + 1 by omega) (arr 4 τ).toList ((p + 1) * 4) b0
          have zb := below_setCells (g := s + 1 + 1) (by omega) (arr 4 τ).toList ((p + 1) * 4) U hbq
          refine ⟨⟨p + 1 + 1, by omega, by go_num, z0, z1, z2, zb⟩, ?_⟩
          simp [intOf]; omega
        | false =>
          rw [hbb] at heq
          clear hbb HS
          generalize f (p * 4 + 0) = y0 at *
          generalize f (p * 4 + 1) = y1 at *
          generalize f (p * 4 + 2) = y2 at *
          generalize f (p * 4 + 3) = y3 at *
          generalize ρ 0 = x0 at *
          generalize ρ 1 = x1 at *
          generalize ρ 2 = x2 at *
          generalize ρ 3 = x3 at *
          rw [hpc]
          go_quiet (fail)
          have b3 : Blk (V.drewN nq) r (arr 4 ρ) 86 := B3
          have hbq := below_drewN hbV nq
          have b0 : Blk (V.drewN nq) s (arr 16 f) 89 := B0
          have b1 : Blk (V.drewN nq) (s + 1) (arr 16 (fun _ => 0)) 89 := B1
          have b2 : Blk (V.drewN nq) (s + 1 + 1) (arr 16 (rowsTo bakR f (p + 1))) 89 := B2
          clear B0 B1 B2 B3 hbV d0 d1 d2 d3 g0 g1 g2 g3 heq
          generalize V.drewN nq = U at *
          go_wp2_with (first
            | ((with_reducible refine at_load ?_); refine load_arr rfl _ _ rfl r 0 rfl 4 ρ (range_all b3) Tryd.underlying86 rfl size41 ?_; simp only [Act.put, List.setIfInBounds_toArray, List.set_cons_zero, List.set_cons_succ])
            | (go_at_call 111; refine (HK.out _).mono ?_; rintro e w2 ⟨rfl, hc2⟩)
            | ((with_reducible refine at_store ?_); refine store_arr rfl _ _ _ rfl (s + 1 + 1) ((p + 1) * 4) rfl 4 τ rfl (there_of_arr (b2.below hc2 b2.lt) ((p + 1) * 4) 4 (by omega)) size41 ?_))
          have hsz : s ≤ U.heap.size := by rw [← hs]; exact hbq.size
          have z2 := HT.out w2 (b2.below hc2 b2.lt)
          have z1 := Blk.others (show s + 1 ≠ s + 1 + 1 by omega) (arr 4 τ).toList ((p + 1) * 4) (b1.below hc2 b1.lt)
          have z0 := Blk.others (show s ≠ s + 1 + 1 by omega) (arr 4 τ).toList ((p + 1) * 4) (b0.below hc2 b0.lt)
          have zb := below_setCells (g := s + 1 + 1) (by omega) (arr 4 τ).toList ((p + 1) * 4) w2 (hbq.trans (hc2.mono hsz))
          refine ⟨⟨p + 1 + 1, by omega, by go_num, z0, z1, z2, zb⟩, ?_⟩
          simp [intOf]; omega
    · obtain rfl : k = 4 := by omega
      rw [rowsTo_full] at b2
      obtain ⟨ρ, hρ⟩ : ∃ ρ, ρ = rowsF bakR f := ⟨_, rfl⟩
      have HR : Hid (rowsF bakR f = ρ) := hρ.symm
      rw [← hρ] at b2
      clear hρ HC
      have HZ : Hid (Blk (wr.setCells (s + 1) 0 (arr 16 ρ).toList) (s + 1) (arr 16 ρ) 89) := arr_store (k := ρ) b1 0 16 (by omega) (fun i hi => by rw [Nat.zero_add]) (fun i hi h => by omega)
      have hbb := below_setCells (g := s + 1) (by omega) (arr 16 ρ).toList 0 wr hb
      have rg := range_all b2
      have th := there_of_arr b1 0 16 (by omega)
      clear b0 b1 b2 hb hlt hk
      go_wp2_with (first
        | ((with_reducible refine at_load ?_); refine load_arr rfl _ _ rfl (s + 1 + 1) 0 rfl 16 ρ rg Tryd.underlying89 rfl size44 ?_; simp only [Act.put, List.setIfInBounds_toArray, List.set_cons_zero, List.set_cons_succ])
        | ((with_reducible refine at_store ?_); refine store_arr rfl _ _ _ rfl (s + 1) 0 rfl 16 ρ rfl th size44 ?_; clear th rg; generalize World.setCells wr (s + 1) 0 (arr 16 ρ).toList = wz at *))
      refine bodyPost_ret (results_cell_row rfl _ _ (s + 1) 89 _ (0, 0) _ rfl HZ.out Tryd.underlying89 rfl (by rw [arr_size]; exact size44)) rfl ?_
      exact ⟨by rw [HR.out], by rw [hs]; exact hbb⟩
end Go.Proofs.YtlejfkjanllgbaaDoor
