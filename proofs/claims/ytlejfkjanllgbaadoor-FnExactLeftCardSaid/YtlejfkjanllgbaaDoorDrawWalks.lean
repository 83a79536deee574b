/-
  The walks of spec.l01New, spec.l01Byte and spec.l01Below: a cursor is laid, gives bytes, and numbers below a bound; nothing else is written.
-/
import Derived.Test.YtlejfkjanllgbaaDoorRows
import Derived.Test.YtlejfkjanllgbaaDoorDrawKit
import Derived.WalkSpells
import Derived.Deep.QuietTactic
import Derived.BigQuiet
import Derived.KernelRfl
namespace Go.Proofs.YtlejfkjanllgbaaDoor
open Go.RowKit
set_option linter.unusedVariables false
set_option maxRecDepth 20000

set_option maxHeartbeats 800000 in
theorem new_any (a : Option Addr) (len cap B : Nat) (w : World) (hc : CodeRow w B a len) (hB : B ≤ w.heap.size) :
    Calls Tryd.prog 23 #[.slice a len cap] w fun e w' => e = .returned (.pointer (some ⟨w.heap.size, 0, none⟩)) ∧ ∃ h : Int, w' = w.alloc (.cells #[.slice a len cap, .int .i64 0, .int .i64 h] 66) := by
  have hl := hc.1
  have HC : Hid (CodeRow w B a len) := hc
  clear hc
  go_enter Tryd.func23, Tryd.ntmps23
  go_wp2
  go_loop [3, 4] (fun x i => ∃ k : Nat, k ≤ len ∧ i = .int .i64 k ∧ ∃ h : Int, x = .int .i64 h) (fun _ i => len - (intOf i).toNat)
  case atStart => exact ⟨0, Nat.zero_le _, rfl, _, rfl⟩
  case round =>
    obtain ⟨k, hk, rfl, h, rfl⟩ := hrel
    by_cases hlt : k < len
    · by_cases h4 : (k : Int) < 4000
      · obtain ⟨b, off, rfl, hbB, hcell⟩ : ∃ b off, a = some ⟨b, off, none⟩ ∧ b < B ∧ ∀ j, j < len → ∃ z : Int, 0 ≤ z ∧ z ≤ 255 ∧ w.cell? ⟨b, off + j, none⟩ = some (.int .u8 z) := by
          rcases HC.out.2 with h0 | h0
          · omega
          · exact h0
        obtain ⟨z, hz0, hz1, hz⟩ := hcell k hlt
        clear hcell
        go_wp2
        go_round
        case rel => exact ⟨k + 1, by omega, by go_num, _, rfl⟩
        case measure => simp [intOf]; omega
      · go_wp2
        go_ret
        exact ⟨rfl, h, rfl⟩
    · go_wp2
      go_ret
      exact ⟨rfl, h, rfl⟩

theorem new_cur (a : Option Addr) (len cap B : Nat) (w : World) (hc : CodeRow w B a len) (hB : B ≤ w.heap.size) :
    Calls Tryd.prog 23 #[.slice a len cap] w fun e w' => e = .returned (.pointer (some ⟨w.heap.size, 0, none⟩)) ∧ CurAt w' w.heap.size a len ∧ Below w.heap.size w w' :=
  (new_any a len cap B w hc hB).mono fun e w' ⟨h1, h, h2⟩ => by
    subst h2
    exact ⟨h1, ⟨cap, 0, h, heap_alloc_new w _, Nat.zero_le _⟩, (Below.refl _ _).alloc (Nat.le_refl _) _⟩

set_option maxHeartbeats 1600000 in
theorem byte_any (g : Nat) (a : Option Addr) (len B : Nat) (w : World) (hc : CodeRow w B a len) (hB : B ≤ g) (hcur : CurAt w g a len) :
    Calls Tryd.prog 51 #[.pointer (some ⟨g, 0, none⟩)] w fun e w' => ∃ x : Int, e = .returned (.int .i64 x) ∧ 0 ≤ x ∧ x ≤ 255 ∧ CurAt w' g a len ∧ w.grownBy w' (some g) := by
  obtain ⟨cap, i, h, hb, hi⟩ := hcur
  have hl := hc.1
  have hgl : g < w.heap.size := (Array.getElem?_eq_some_iff.1 hb).1
  have c0 : w.cell? ⟨g, 0, none⟩ = some (.slice a len cap) := by rw [cell_of_row w g 0 _ 66 (0, 0) hb]; rfl
  have c1 : w.cell? ⟨g, 1, none⟩ = some (.int .i64 i) := by rw [cell_of_row w g 1 _ 66 (0, 0) hb]; rfl
  have c2 : w.cell? ⟨g, 2, none⟩ = some (.int .i64 h) := by rw [cell_of_row w g 2 _ 66 (0, 0) hb]; rfl
  have f1 : w.frozen? ⟨g, 1, none⟩ = false := frozen_of_row hb
  have f2 : w.frozen? ⟨g, 2, none⟩ = false := frozen_of_row hb
  have HB : Hid (w.heap[g]? = some (.cells #[.slice a len cap, .int .i64 i, .int .i64 h] 66 (0, 0))) := hb
  have HC : Hid (CodeRow w B a len) := hc
  have ha := i64_and255
  clear hb hc
  by_cases hlt : i < len
  · obtain ⟨b, off, rfl, hbB, hcell⟩ : ∃ b off, a = some ⟨b, off, none⟩ ∧ b < B ∧ ∀ j, j < len → ∃ z : Int, 0 ≤ z ∧ z ≤ 255 ∧ w.cell? ⟨b, off + j, none⟩ = some (.int .u8 z) := by
      rcases HC.out.2 with h0 | h0
      · omega
      · exact h0
    obtain ⟨z, hz0, hz1, hz⟩ := hcell i hlt
    clear hcell
    have l0 : (0 : Int) ≤ (i : Int) := by omega
    have l1 : (i : Int) < (len : Int) := by omega
    have hne : ¬ b = g := by omega
    go_enter Tryd.func51, Tryd.ntmps51
    go_wp2
    go_quiet (fail)
    go_wp2
    go_quiet (fail)
    go_wp2
    go_quiet (fail)
    go_wp2
    go_ret
    refine ⟨_, rfl, Int.emod_nonneg _ (by decide), Int.le_of_lt_add_one (Int.emod_lt_of_pos _ (by decide)), ?_, ?_⟩
    · exact ⟨cap, i + 1, _, cur_i (i' := i + 1) (w := World.drewN _ _) (cur_h HB.out), by omega⟩
    · exact ((grown_setCell w ⟨g, 2, none⟩ _).trans (grown_drewN _ _ _)).trans (grown_setCell _ ⟨g, 1, none⟩ _)
  · have hge : (len : Int) ≤ (i : Int) := by omega
    go_enter Tryd.func51, Tryd.ntmps51
    go_wp2
    go_quiet (fail)
    go_wp2
    go_quiet (fail)
    go_wp2
    go_ret
    refine ⟨_, rfl, Int.emod_nonneg _ (by decide), Int.le_of_lt_add_one (Int.emod_lt_of_pos _ (by decide)), ⟨cap, i, _, cur_h HB.out, hi⟩, ?_⟩
    exact ((grown_setCell w ⟨g, 2, none⟩ _).trans (grown_drewN _ _ _)).trans (grown_drewN _ _ _)

/-- What a call on a cursor leaves: the cursor, and all but it as it was. -/
def CurKept (w w' : World) (g : Nat) (a : Option Addr) (len : Nat) : Prop := CurAt w' g a len ∧ w.grownBy w' (some g)
theorem CurKept.code {w w' : World} {g B : Nat} {a : Option Addr} {len : Nat} (h : CurKept w w' g a len) (hc : CodeRow w B a len) (hB : B ≤ g) (hg : B ≤ w.heap.size) : CodeRow w' B a len :=
  hc.below (below_of_grown h.2 hg (fun k hk => by cases hk; exact hB))
theorem CurKept.trans {w w1 w2 : World} {g : Nat} {a : Option Addr} {len : Nat} (h : CurKept w w1 g a len) (k : CurKept w1 w2 g a len) : CurKept w w2 g a len := ⟨k.1, h.2.trans k.2⟩

set_option maxHeartbeats 800000 in
theorem below_any (g : Nat) (a : Option Addr) (len B : Nat) (n : Int) (w : World) (hc : CodeRow w B a len) (hB : B ≤ g) (hcur : CurAt w g a len) (h1 : 1 ≤ n) (h2 : n ≤ 4294967296) :
    Calls Tryd.prog 25 #[.pointer (some ⟨g, 0, none⟩), .int .i64 n] w fun e w' => ∃ x : Int, e = .returned (.int .i64 x) ∧ 0 ≤ x ∧ x < n ∧ CurKept w w' g a len := by
  have hgB : B ≤ w.heap.size := by have := hcur.lt; omega
  by_cases hs : n ≤ 256
  · go_enter Tryd.func25, Tryd.ntmps25
    go_wp2_with (go_at_call 51; refine (byte_any g a len B _ hc hB hcur).mono ?_; rintro e w1 ⟨x, rfl, hx0, hx1, hk⟩)
    go_ret
    exact ⟨_, rfl, Int.emod_nonneg _ (by omega), Int.emod_lt_of_pos _ (by omega), hk⟩
  · go_enter Tryd.func25, Tryd.ntmps25
    go_wp2_with fail
    refine (byte_any g a len B _ hc hB hcur).mono ?_
    rintro e w1 ⟨x1, rfl, hx1, hy1, hk1⟩
    have hc1 := CurKept.code hk1 hc hB hgB
    go_wp2_with fail
    refine (byte_any g a len B _ hc1 hB hk1.1).mono ?_
    rintro e w2 ⟨x2, rfl, hx2, hy2, hk2⟩
    have hc2 := CurKept.code hk2 hc1 hB (Nat.le_trans hgB hk1.2.size)
    go_wp2_with fail
    refine (byte_any g a len B _ hc2 hB hk2.1).mono ?_
    rintro e w3 ⟨x3, rfl, hx3, hy3, hk3⟩
    have hc3 := CurKept.code hk3 hc2 hB (Nat.le_trans hgB (Nat.le_trans hk1.2.size hk2.2.size))
    go_wp2_with fail
    refine (byte_any g a len B _ hc3 hB hk3.1).mono ?_
    rintro e w4 ⟨x4, rfl, hx4, hy4, hk4⟩
    go_wp2
    go_ret
    exact ⟨_, rfl, Int.emod_nonneg _ (by omega), Int.emod_lt_of_pos _ (by omega), ((CurKept.trans hk1 hk2).trans hk3).trans hk4⟩
end Go.Proofs.YtlejfkjanllgbaaDoor
