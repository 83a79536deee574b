/-
  spec.Scanned, spec.Unscanned.
  spec.Scanned and spec.Unscanned of any list.
-/
import Derived.Test.YtlejfkjanllgbaaDoorScanSpec
import Derived.Test.YtlejfkjanllgbaaDoorScanList
import Derived.Deep.RegionWith
import Derived.Deep.AppendLies
namespace Go.Proofs.YtlejfkjanllgbaaDoor
open Go.RowKit
set_option linter.unusedVariables false
set_option maxRecDepth 20000

theorem ints_some {w : World} {a : Option Addr} {xs : List Int} (h : Ints w a xs) (hn : 0 < xs.length) :
    ∃ b off, a = some ⟨b, off, none⟩ ∧ b < w.heap.size ∧ Hid (∀ w', Below w.heap.size w w' → ∀ j, j < xs.length → w'.cell? ⟨b, off + j, none⟩ = some (.int .i64 (xs.getD j 0))) := by
  rcases h with h0 | ⟨b, off, ha, hg, hc⟩
  · rw [h0] at hn
    cases hn
  · exact ⟨b, off, ha, hg, fun w' hb j hj => (hb.cell (p := ⟨b, off + j, none⟩) hg).trans (hc j hj)⟩
theorem atF_of {sd k : Nat} (hs : SideOk sd) (hk : k < sd * sd) : atF (sd : Int) (k : Int) = (scF sd k : Int) := by
  unfold atF
  rw [if_pos ⟨by rcases hs with rfl | rfl <;> simp, by omega, by have := Int.natCast_mul sd sd; omega⟩]
  simp
theorem listF_more (n : Nat) (f : Nat → Int) : (listF n f).map (Value.int .i64) ++ [.int .i64 (f n)] = (listF (n + 1) f).map (Value.int .i64) := by
  unfold listF
  rw [List.range_succ, List.map_append, List.map_append]
  rfl
theorem base_own {w : World} {B n s : Nat} {e : TypeId} {v : Value} {xs : List Value} (h : w.ownsRow B e s v n xs) : ∀ k, v.ownBlock = some k → B ≤ k := fun k hk => (h.lt k hk).1

set_option maxHeartbeats 1600000 in
theorem specScanned_4 (b off cap : Nat) (xs : List Int) (w : World) (hg : b < w.heap.size) (HC : Hid (∀ w', Below w.heap.size w w' → ∀ j, j < 16 → w'.cell? ⟨b, off + j, none⟩ = some (.int .i64 (xs.getD j 0)))) :
    Calls Tryd.prog 35 #[.int .i64 4, .slice (some ⟨b, off, none⟩) 16 cap] w fun e w' => (∃ v, e = .returned (.tuple #[v, .bool true]) ∧ w'.ownsRow w.heap.size 3 1 v 16 ((listF 16 (fun i => xs.getD (scF 4 i) 0)).map (Value.int .i64))) ∧ Below w.heap.size w w' := by
  obtain ⟨i0, hi0, hz0, hz1, hz2⟩ := info_parts infoI
  have hs : SideOk 4 := by simp [SideOk]
  have CS : Hid (∀ (k : Nat) w', k < 16 → Calls Tryd.prog 61 #[.int .i64 4, .int .i64 (k : Int)] w' (fun e w'' => e = .returned (.int .i64 (scF 4 k : Int)) ∧ w'' = w')) := fun k w' hk => specScanAt_4 k hk w'
  have HP : Hid (∀ k, k < 16 → scF 4 k < 16) := fun k hk => scF_lt hs hk
  have HS : Hid (SideOk 4) := hs
  clear hs
  go_enter Tryd.func35, Tryd.ntmps35
  go_wp2
  go_loopw [6, 7] (fun v i wr => ∃ k : Nat, k ≤ 16 ∧ i = .int .i64 (k : Int) ∧ wr.ownsRow w.heap.size 3 1 v k ((listF k (fun i => xs.getD (scF 4 i) 0)).map (Value.int .i64)) ∧ Below w.heap.size w wr) (fun _ i _ => 16 - (intOf i).toNat)
  case atStart => exact ⟨0, by omega, rfl, World.ownsRow_made w #[] 0 (Nat.le_refl _) (by unfold maxLen; omega) rfl, (Below.refl _ _).alloc (Nat.le_refl _) _⟩
  case round =>
    obtain ⟨k, hk, rfl, hown, hb⟩ := hrel
    have l0 : (0 : Int) ≤ (k : Int) := by omega
    by_cases hlt : k < 16
    · have l1 : (k : Int) < 16 := by omega
      have HCk : Hid (∀ w', Calls Tryd.prog 61 #[.int .i64 4, .int .i64 (k : Int)] w' (fun e w'' => e = .returned (.int .i64 (scF 4 k : Int)) ∧ w'' = w')) := fun w' => CS.out k w' hlt
      have hp := HP.out k hlt
      have HL' : Hid ((listF k (fun i => xs.getD (scF 4 i) 0)).map (Value.int .i64) ++ [.int .i64 (xs.getD (scF 4 k) 0)] = (listF (k + 1) (fun i => xs.getD (scF 4 i) 0)).map (Value.int .i64)) := listF_more k _
      have d1 := HC.out wr hb (scF 4 k) hp
      generalize hpk : scF 4 k = p at *
      have p0 : (0 : Int) ≤ (p : Int) := by omega
      have p1 : (p : Int) < 16 := by omega
      generalize hy : xs.getD p 0 = y at *
      clear hpk hy
      go_wp2_with (first
        | (go_at_call 61; refine (HCk.out _).mono ?_; rintro e w2 ⟨rfl, hw⟩; subst w2)
        | (at_builtin; refine wpList_append_lies _ (by rfl) _ _ 24 (by rfl) w.heap.size 3 i0 (.int .i64 0) 1 8 Tryd.underlying24 hi0 hz0 hz1 hz2 rfl (by omega) u6 k _ (by rfl) (hown.alloc _) ⟨wr.heap.size, 0, none⟩ 1 1 [.int .i64 y] (by rfl) (by rfl) (World.news_of_block (cs := #[.int .i64 y]) (t := 3) (fr := (0, 0)) (heap_alloc_new wr _)) (by simp [Value.oneCell']) (by omega) (by unfold maxLen; omega) (by omega) (by have := hb.size; simp; omega) (wr.heap.size + 1) (by simp) ?_; intro gg cp w4 hown4 hgrow hat hlt2))
      rw [HL'.out] at hown4
      refine ⟨⟨k + 1, by omega, by go_num, hown4, (hb.alloc hb.size _).grown hgrow (by have := hb.size; simp; omega) (base_own hown)⟩, ?_⟩
      simp [intOf]; omega
    · obtain rfl : k = 16 := by omega
      go_wp2
      go_ret2
      exact ⟨⟨_, rfl, hown⟩, hb⟩

set_option maxHeartbeats 1600000 in
theorem specScanned_8 (b off cap : Nat) (xs : List Int) (w : World) (hg : b < w.heap.size) (HC : Hid (∀ w', Below w.heap.size w w' → ∀ j, j < 64 → w'.cell? ⟨b, off + j, none⟩ = some (.int .i64 (xs.getD j 0)))) :
    Calls Tryd.prog 35 #[.int .i64 8, .slice (some ⟨b, off, none⟩) 64 cap] w fun e w' => (∃ v, e = .returned (.tuple #[v, .bool true]) ∧ w'.ownsRow w.heap.size 3 1 v 64 ((listF 64 (fun i => xs.getD (scF 8 i) 0)).map (Value.int .i64))) ∧ Below w.heap.size w w' := by
  obtain ⟨i0, hi0, hz0, hz1, hz2⟩ := info_parts infoI
  have hs : SideOk 8 := by simp [SideOk]
  have CS : Hid (∀ (k : Nat) w', k < 64 → Calls Tryd.prog 61 #[.int .i64 8, .int .i64 (k : Int)] w' (fun e w'' => e = .returned (.int .i64 (scF 8 k : Int)) ∧ w'' = w')) := fun k w' hk => specScanAt_8 k hk w'
  have HP : Hid (∀ k, k < 64 → scF 8 k < 64) := fun k hk => scF_lt hs hk
  have HS : Hid (SideOk 8) := hs
  clear hs
  go_enter Tryd.func35, Tryd.ntmps35
  go_wp2
  go_loopw [6, 7] (fun v i wr => ∃ k : Nat, k ≤ 64 ∧ i = .int .i64 (k : Int) ∧ wr.ownsRow w.heap.size 3 1 v k ((listF k (fun i => xs.getD (scF 8 i) 0)).map (Value.int .i64)) ∧ Below w.heap.size w wr) (fun _ i _ => 64 - (intOf i).toNat)
  case atStart => exact ⟨0, by omega, rfl, World.ownsRow_made w #[] 0 (Nat.le_refl _) (by unfold maxLen; omega) rfl, (Below.refl _ _).alloc (Nat.le_refl _) _⟩
  case round =>
    obtain ⟨k, hk, rfl, hown, hb⟩ := hrel
    have l0 : (0 : Int) ≤ (k : Int) := by omega
    by_cases hlt : k < 64
    · have l1 : (k : Int) < 64 := by omega
      have HCk : Hid (∀ w', Calls Tryd.prog 61 #[.int .i64 8, .int .i64 (k : Int)] w' (fun e w'' => e = .returned (.int .i64 (scF 8 k : Int)) ∧ w'' = w')) := fun w' => CS.out k w' hlt
      have hp := HP.out k hlt
      have HL' : Hid ((listF k (fun i => xs.getD (scF 8 i) 0)).map (Value.int .i64) ++ [.int .i64 (xs.getD (scF 8 k) 0)] = (listF (k + 1) (fun i => xs.getD (scF 8 i) 0)).map (Value.int .i64)) := listF_more k _
      have d1 := HC.out wr hb (scF 8 k) hp
      generalize hpk : scF 8 k = p at *
      have p0 : (0 : Int) ≤ (p : Int) := by omega
      have p1 : (p : Int) < 64 := by omega
      generalize hy : xs.getD p 0 = y at *
      clear hpk hy
      go_wp2_with (first
        | (go_at_call 61; refine (HCk.out _).mono ?_; rintro e w2 ⟨rfl, hw⟩; subst w2)
        | (at_builtin; refine wpList_append_lies _ (by rfl) _ _ 24 (by rfl) w.heap.size 3 i0 (.int .i64 0) 1 8 Tryd.underlying24 hi0 hz0 hz1 hz2 rfl (by omega) u6 k _ (by rfl) (hown.alloc _) ⟨wr.heap.size, 0, none⟩ 1 1 [.int .i64 y] (by rfl) (by rfl) (World.news_of_block (cs := #[.int .i64 y]) (t := 3) (fr := (0, 0)) (heap_alloc_new wr _)) (by simp [Value.oneCell']) (by omega) (by unfold maxLen; omega) (by omega) (by have := hb.size; simp; omega) (wr.heap.size + 1) (by simp) ?_; intro gg cp w4 hown4 hgrow hat hlt2))
      rw [HL'.out] at hown4
      refine ⟨⟨k + 1, by omega, by go_num, hown4, (hb.alloc hb.size _).grown hgrow (by have := hb.size; simp; omega) (base_own hown)⟩, ?_⟩
      simp [intOf]; omega
    · obtain rfl : k = 64 := by omega
      go_wp2
      go_ret2
      exact ⟨⟨_, rfl, hown⟩, hb⟩

set_option maxHeartbeats 1600000 in
theorem specUnscanned_4 (b off cap : Nat) (xs : List Int) (w : World) (hg : b < w.heap.size) (HC : Hid (∀ w', Below w.heap.size w w' → ∀ j, j < 16 → w'.cell? ⟨b, off + j, none⟩ = some (.int .i64 (xs.getD j 0)))) :
    Calls Tryd.prog 41 #[.int .i64 4, .slice (some ⟨b, off, none⟩) 16 cap] w fun e w' => (∃ v, e = .returned (.tuple #[v, .bool true]) ∧ w'.ownsRow w.heap.size 3 1 v 16 ((listF 16 (fun i => xs.getD (bkF 4 i) 0)).map (Value.int .i64))) ∧ Below w.heap.size w w' := by
  obtain ⟨i0, hi0, hz0, hz1, hz2⟩ := info_parts infoI
  have hs : SideOk 4 := by simp [SideOk]
  have CS : Hid (∀ (k : Nat) w', k < 16 → Calls Tryd.prog 61 #[.int .i64 4, .int .i64 (k : Int)] w' (fun e w'' => e = .returned (.int .i64 (scF 4 k : Int)) ∧ w'' = w')) := fun k w' hk => specScanAt_4 k hk w'
  have HP : Hid (∀ k, k < 16 → scF 4 k < 16) := fun k hk => scF_lt hs hk
  have HS : Hid (SideOk 4) := hs
  clear hs
  go_enter Tryd.func41, Tryd.ntmps41
  go_wp2_with (at_make; refine wpList_make_full _ (by rfl) _ _ 24 (by rfl) w.heap.size 3 i0 (.int .i64 0) 1 Tryd.underlying24 hi0 hz0 hz1 .i64 .i64 _ _ 16 (by rfl) (by rfl) (by rfl) (by rfl) (by rw [hz2]; omega) (by unfold maxLen; omega) (Nat.le_refl _) ?_; intro w1 hown0 hgrow0)
  have hb0 : Below w.heap.size w w1 := (Below.refl _ _).grown hgrow0 (Nat.le_refl _) (fun j hj => by cases hj)
  rw [bkUp_made 4 xs] at hown0
  clear hgrow0
  go_loopw [7] (fun i wr => ∃ k : Nat, k ≤ 16 ∧ i = .int .i64 (k : Int) ∧ wr.ownsRow w.heap.size 3 1 (.slice (some ⟨w.heap.size, 0, none⟩) 16 16) 16 ((listF 16 (bkUp 4 xs k)).map (Value.int .i64)) ∧ Below w.heap.size w wr) (fun i _ => 16 - (intOf i).toNat)
  case atStart => exact ⟨0, by omega, rfl, hown0, hb0⟩
  case round =>
    obtain ⟨k, hk, rfl, hown, hb⟩ := hrel
    clear hown0 hb0
    have l0 : (0 : Int) ≤ (k : Int) := by omega
    by_cases hlt : k < 16
    · have l1 : (k : Int) < 16 := by omega
      have hp := HP.out k hlt
      have CK : Hid (∀ w', Calls Tryd.prog 61 #[.int .i64 4, .int .i64 (k : Int)] w' (fun e w'' => e = .returned (.int .i64 (scF 4 k : Int)) ∧ w'' = w')) := fun w' => CS.out k w' hlt
      have d1 := HC.out wr hb k hlt
      have hcc := hown.cellAt (scF 4 k) (by omega)
      have hc' : wr.cell? ⟨w.heap.size, scF 4 k, none⟩ = some (.int .i64 (bkUp 4 xs k (scF 4 k))) := by rw [hcc]; exact map_at _ hp
      have hfz := hown.frozenAt (scF 4 k)
      have hst := hown.stored (scF 4 k) (.int .i64 (xs.getD k 0))
      rw [bkUp_set HS.out xs 16 k hlt] at hst
      have HO : Hid _ := hst.1
      have HB : Hid (Below w.heap.size w (wr.setCell ⟨w.heap.size, scF 4 k, none⟩ (.int .i64 (xs.getD k 0)))) := hb.grown hst.2 hb.size (fun j hj => by cases hj; exact Nat.le_refl _)
      clear hst hcc
      generalize bkUp 4 xs k (scF 4 k) = z at *
      generalize hpk : scF 4 k = p at *
      have p0 : (0 : Int) ≤ (p : Int) := by omega
      have p1 : (p : Int) < 16 := by omega
      generalize hy : xs.getD k 0 = y at *
      clear hpk hy hown
      have FIN : Hid ((wr.setCell ⟨w.heap.size, p, none⟩ (.int .i64 y)).drew.ownsRow w.heap.size 3 1 (.slice (some ⟨w.heap.size, 0, none⟩) 16 16) 16 ((listF 16 (bkUp 4 xs (k + 1))).map (Value.int .i64)) ∧ Below w.heap.size w (wr.setCell ⟨w.heap.size, p, none⟩ (.int .i64 y)).drew) := ⟨HO.out, HB.out.drew⟩
      clear HO HB
      go_wp2
      go_region_with (go_at_call 61; refine (CK.out _).mono ?_; rintro e w2 ⟨rfl, hw⟩; subst w2)
      all_goals
        go_wp2
        go_roundw
        case rel => exact ⟨k + 1, by omega, by go_num, FIN.out.1, FIN.out.2⟩
        case measure => simp [intOf]; omega
    · obtain rfl : k = 16 := by omega
      rw [show listF 16 (bkUp 4 xs 16) = listF 16 (fun i => xs.getD (bkF 4 i) 0) from bkUp_full HS.out xs] at hown
      go_wp2
      go_ret2
      exact ⟨⟨_, rfl, hown⟩, hb⟩

set_option maxHeartbeats 1600000 in
theorem specUnscanned_8 (b off cap : Nat) (xs : List Int) (w : World) (hg : b < w.heap.size) (HC : Hid (∀ w', Below w.heap.size w w' → ∀ j, j < 64 → w'.cell? ⟨b, off + j, none⟩ = some (.int .i64 (xs.getD j 0)))) :
    Calls Tryd.prog 41 #[.int .i64 8, .slice (some ⟨b, off, none⟩) 64 cap] w fun e w' => (∃ v, e = .returned (.tuple #[v, .bool true]) ∧ w'.ownsRow w.heap.size 3 1 v 64 ((listF 64 (fun i => xs.getD (bkF 8 i) 0)).map (Value.int .i64))) ∧ Below w.heap.size w w' := by
  obtain ⟨i0, hi0, hz0, hz1, hz2⟩ := info_parts infoI
  have hs : SideOk 8 := by simp [SideOk]
  have CS : Hid (∀ (k : Nat) w', k < 64 → Calls Tryd.prog 61 #[.int .i64 8, .int .i64 (k : Int)] w' (fun e w'' => e = .returned (.int .i64 (scF 8 k : Int)) ∧ w'' = w')) := fun k w' hk => specScanAt_8 k hk w'
  have HP : Hid (∀ k, k < 64 → scF 8 k < 64) := fun k hk => scF_lt hs hk
  have HS : Hid (SideOk 8) := hs
  clear hs
  go_enter Tryd.func41, Tryd.ntmps41
  go_wp2_with (at_make; refine wpList_make_full _ (by rfl) _ _ 24 (by rfl) w.heap.size 3 i0 (.int .i64 0) 1 Tryd.underlying24 hi0 hz0 hz1 .i64 .i64 _ _ 64 (by rfl) (by rfl) (by rfl) (by rfl) (by rw [hz2]; omega) (by unfold maxLen; omega) (Nat.le_refl _) ?_; intro w1 hown0 hgrow0)
  have hb0 : Below w.heap.size w w1 := (Below.refl _ _).grown hgrow0 (Nat.le_refl _) (fun j hj => by cases hj)
  rw [bkUp_made 8 xs] at hown0
  clear hgrow0
  go_loopw [7] (fun i wr => ∃ k : Nat, k ≤ 64 ∧ i = .int .i64 (k : Int) ∧ wr.ownsRow w.heap.size 3 1 (.slice (some ⟨w.heap.size, 0, none⟩) 64 64) 64 ((listF 64 (bkUp 8 xs k)).map (Value.int .i64)) ∧ Below w.heap.size w wr) (fun i _ => 64 - (intOf i).toNat)
  case atStart => exact ⟨0, by omega, rfl, hown0, hb0⟩
  case round =>
    obtain ⟨k, hk, rfl, hown, hb⟩ := hrel
    clear hown0 hb0
    have l0 : (0 : Int) ≤ (k : Int) := by omega
    by_cases hlt : k < 64
    · have l1 : (k : Int) < 64 := by omega
      have hp := HP.out k hlt
      have CK : Hid (∀ w', Calls Tryd.prog 61 #[.int .i64 8, .int .i64 (k : Int)] w' (fun e w'' => e = .returned (.int .i64 (scF 8 k : Int)) ∧ w'' = w')) := fun w' => CS.out k w' hlt
      have d1 := HC.out wr hb k hlt
      have hcc := hown.cellAt (scF 8 k) (by omega)
      have hc' : wr.cell? ⟨w.heap.size, scF 8 k, none⟩ = some (.int .i64 (bkUp 8 xs k (scF 8 k))) := by rw [hcc]; exact map_at _ hp
      have hfz := hown.frozenAt (scF 8 k)
      have hst := hown.stored (scF 8 k) (.int .i64 (xs.getD k 0))
      rw [bkUp_set HS.out xs 64 k hlt] at hst
      have HO : Hid _ := hst.1
      have HB : Hid (Below w.heap.size w (wr.setCell ⟨w.heap.size, scF 8 k, none⟩ (.int .i64 (xs.getD k 0)))) := hb.grown hst.2 hb.size (fun j hj => by cases hj; exact Nat.le_refl _)
      clear hst hcc
      generalize bkUp 8 xs k (scF 8 k) = z at *
      generalize hpk : scF 8 k = p at *
      have p0 : (0 : Int) ≤ (p : Int) := by omega
      have p1 : (p : Int) < 64 := by omega
      generalize hy : xs.getD k 0 = y at *
      clear hpk hy hown
      have FIN : Hid ((wr.setCell ⟨w.heap.size, p, none⟩ (.int .i64 y)).drew.ownsRow w.heap.size 3 1 (.slice (some ⟨w.heap.size, 0, none⟩) 64 64) 64 ((listF 64 (bkUp 8 xs (k + 1))).map (Value.int .i64)) ∧ Below w.heap.size w (wr.setCell ⟨w.heap.size, p, none⟩ (.int .i64 y)).drew) := ⟨HO.out, HB.out.drew⟩
      clear HO HB
      go_wp2
      go_region_with (go_at_call 61; refine (CK.out _).mono ?_; rintro e w2 ⟨rfl, hw⟩; subst w2)
      all_goals
        go_wp2
        go_roundw
        case rel => exact ⟨k + 1, by omega, by go_num, FIN.out.1, FIN.out.2⟩
        case measure => simp [intOf]; omega
    · obtain rfl : k = 64 := by omega
      rw [show listF 64 (bkUp 8 xs 64) = listF 64 (fun i => xs.getD (bkF 8 i) 0) from bkUp_full HS.out xs] at hown
      go_wp2
      go_ret2
      exact ⟨⟨_, rfl, hown⟩, hb⟩

end Go.Proofs.YtlejfkjanllgbaaDoor

namespace Go.Proofs.YtlejfkjanllgbaaDoor
open Go.RowKit
set_option linter.unusedVariables false

theorem specScanned_no (s : Int) (a : Option Addr) (n cap : Nat) (w : World) (hn : n ≤ maxLen) (h : ¬ (s = 4 ∧ n = 16 ∨ s = 8 ∧ n = 64)) :
    Calls Tryd.prog 35 #[.int .i64 s, .slice a n cap] w fun e w' => e = .returned (.tuple #[.slice (some ⟨w.heap.size, 0, none⟩) 0 0, .bool false]) ∧ w' = w.alloc (.cells #[] 3) := by
  unfold maxLen at hn
  by_cases h4 : s = 4
  · subst h4
    have hq : ((n : Int) == 16) = false := by rw [beq_eq_false_iff_ne]; omega
    have hq' : (n == 16) = false := by rw [beq_eq_false_iff_ne]; omega
    clear h
    go_enter Tryd.func35, Tryd.ntmps35
    go_wp2
    go_ret2
    exact ⟨rfl, rfl⟩
  · by_cases h8 : s = 8
    · subst h8
      have hq : ((n : Int) == 64) = false := by rw [beq_eq_false_iff_ne]; omega
      have hq' : (n == 64) = false := by rw [beq_eq_false_iff_ne]; omega
      clear h
      go_enter Tryd.func35, Tryd.ntmps35
      go_wp2
      go_ret2
      exact ⟨rfl, rfl⟩
    · have q4 : (s == 4) = false := by rw [beq_eq_false_iff_ne]; exact h4
      have q8 : (s == 8) = false := by rw [beq_eq_false_iff_ne]; exact h8
      clear h
      go_enter Tryd.func35, Tryd.ntmps35
      go_wp2
      go_ret2
      exact ⟨rfl, rfl⟩
theorem specScanned (s : Int) (a : Option Addr) (cap : Nat) (xs : List Int) (w : World) (h : Ints w a xs) (hl : xs.length ≤ maxLen) :
    Calls Tryd.prog 35 #[.int .i64 s, .slice a xs.length cap] w fun e w' => (∃ v, e = .returned (.tuple #[v, .bool (scOk s xs)]) ∧ w'.ownsRow w.heap.size 3 1 v (scanL s xs).length ((scanL s xs).map (Value.int .i64))) ∧ Below w.heap.size w w' := by
  cases hb : scOk s xs with
  | true =>
    unfold scanL
    rw [if_pos hb, listF_length]
    have hb' := hb
    unfold scOk at hb'
    simp only [Bool.and_eq_true, Bool.or_eq_true, decide_eq_true_eq] at hb'
    obtain ⟨h1, h2⟩ := hb'
    rcases h1 with rfl | rfl
    · have hN : xs.length = 16 := by omega
      obtain ⟨b, off, rfl, hg, HC⟩ := ints_some h (by omega)
      rw [hN] at HC ⊢
      exact specScanned_4 b off cap xs w hg HC
    · have hN : xs.length = 64 := by omega
      obtain ⟨b, off, rfl, hg, HC⟩ := ints_some h (by omega)
      rw [hN] at HC ⊢
      exact specScanned_8 b off cap xs w hg HC
  | false =>
    have HL : scanL s xs = [] := by unfold scanL; exact if_neg (by rw [hb]; decide)
    refine (specScanned_no s a xs.length cap w hl (fun h => ?_)).mono ?_
    · unfold scOk at hb
      rcases h with ⟨rfl, h⟩ | ⟨rfl, h⟩
      · rw [h] at hb; exact absurd hb (by decide)
      · rw [h] at hb; exact absurd hb (by decide)
    · rintro e w' ⟨rfl, rfl⟩
      rw [HL]
      exact ⟨⟨_, rfl, own_none w (Nat.le_refl _)⟩, (Below.refl _ _).alloc (Nat.le_refl _) _⟩
theorem specUnscanned_no (s : Int) (a : Option Addr) (n cap : Nat) (w : World) (hn : n ≤ maxLen) (h : ¬ (s = 4 ∧ n = 16 ∨ s = 8 ∧ n = 64)) :
    Calls Tryd.prog 41 #[.int .i64 s, .slice a n cap] w fun e w' => e = .returned (.tuple #[.slice (some ⟨w.heap.size, 0, none⟩) 0 0, .bool false]) ∧ w' = w.alloc (.cells #[] 3) := by
  unfold maxLen at hn
  by_cases h4 : s = 4
  · subst h4
    have hq : ((n : Int) == 16) = false := by rw [beq_eq_false_iff_ne]; omega
    have hq' : (n == 16) = false := by rw [beq_eq_false_iff_ne]; omega
    clear h
    go_enter Tryd.func41, Tryd.ntmps41
    go_wp2
    go_ret2
    exact ⟨rfl, rfl⟩
  · by_cases h8 : s = 8
    · subst h8
      have hq : ((n : Int) == 64) = false := by rw [beq_eq_false_iff_ne]; omega
      have hq' : (n == 64) = false := by rw [beq_eq_false_iff_ne]; omega
      clear h
      go_enter Tryd.func41, Tryd.ntmps41
      go_wp2
      go_ret2
      exact ⟨rfl, rfl⟩
    · have q4 : (s == 4) = false := by rw [beq_eq_false_iff_ne]; exact h4
      have q8 : (s == 8) = false := by rw [beq_eq_false_iff_ne]; exact h8
      clear h
      go_enter Tryd.func41, Tryd.ntmps41
      go_wp2
      go_ret2
      exact ⟨rfl, rfl⟩
theorem specUnscanned (s : Int) (a : Option Addr) (cap : Nat) (xs : List Int) (w : World) (h : Ints w a xs) (hl : xs.length ≤ maxLen) :
    Calls Tryd.prog 41 #[.int .i64 s, .slice a xs.length cap] w fun e w' => (∃ v, e = .returned (.tuple #[v, .bool (scOk s xs)]) ∧ w'.ownsRow w.heap.size 3 1 v (backL s xs).length ((backL s xs).map (Value.int .i64))) ∧ Below w.heap.size w w' := by
  cases hb : scOk s xs with
  | true =>
    unfold backL
    rw [if_pos hb, listF_length]
    have hb' := hb
    unfold scOk at hb'
    simp only [Bool.and_eq_true, Bool.or_eq_true, decide_eq_true_eq] at hb'
    obtain ⟨h1, h2⟩ := hb'
    rcases h1 with rfl | rfl
    · have hN : xs.length = 16 := by omega
      obtain ⟨b, off, rfl, hg, HC⟩ := ints_some h (by omega)
      rw [hN] at HC ⊢
      exact specUnscanned_4 b off cap xs w hg HC
    · have hN : xs.length = 64 := by omega
      obtain ⟨b, off, rfl, hg, HC⟩ := ints_some h (by omega)
      rw [hN] at HC ⊢
      exact specUnscanned_8 b off cap xs w hg HC
  | false =>
    have HL : backL s xs = [] := by unfold backL; exact if_neg (by rw [hb]; decide)
    refine (specUnscanned_no s a xs.length cap w hl (fun h => ?_)).mono ?_
    · unfold scOk at hb
      rcases h with ⟨rfl, h⟩ | ⟨rfl, h⟩
      · rw [h] at hb; exact absurd hb (by decide)
      · rw [h] at hb; exact absurd hb (by decide)
    · rintro e w' ⟨rfl, rfl⟩
      rw [HL]
      exact ⟨⟨_, rfl, own_none w (Nat.le_refl _)⟩, (Below.refl _ _).alloc (Nat.le_refl _) _⟩
end Go.Proofs.YtlejfkjanllgbaaDoor
