/-
  Facts on the cursor of a draw: what it is in memory, and the few facts on numbers that its walks want.
  The walks of spec.l01New, spec.l01Byte and spec.l01Below: a cursor is laid, gives bytes, and numbers below a bound; nothing else is written.
  The draws with their values: what a cursor gives is told by its code and its state alone.
  What the walks of drawn rows share: a row that a draw appends to beside its cursor.
  Drawn dots with their values: the walks of spec.l12Dots, spec.l13Ints and spec.l01PickInt.
-/
import Derived.WalkKit
import Derived.OwnWalk
import Derived.WalkSmall
import Derived.Laws.OwnMore
import Derived.Laws.BytesArg
import Derived.Deep.AppendLies
import Derived.Maps.AppendAt
import Derived.Test.YtkakiollhhmmaaaRows
import Derived.WalkSpells
import Derived.Deep.QuietTactic
import Derived.BigQuiet
import Derived.KernelRfl
import Derived.Maps.Range
import Derived.Test.YtkakiollhhmmaaaAllKit
import Derived.Test.YtkakiollhhmmaaaOwnKit
import Derived.Test.YtkakiollhhmmaaaEdgeMath
import Derived.Test.YtkakiollhhmmaaaNumKit
import Derived.Test.YtkakiollhhmmaaaSqKit
namespace Go.Proofs.Ytkakiollhhmmaaa
open Go.RowKit
set_option linter.unusedVariables false
set_option maxRecDepth 20000

/-- The bytes of a code that came in lie below B and can be read. -/
def CodeRow (w : World) (B : Nat) (a : Option Addr) (len : Nat) : Prop :=
  len ≤ 2000000 ∧ (len = 0 ∨ ∃ b off, a = some ⟨b, off, none⟩ ∧ b < B ∧ ∀ j, j < len → ∃ z : Int, 0 ≤ z ∧ z ≤ 255 ∧ w.cell? ⟨b, off + j, none⟩ = some (.int .u8 z))
theorem CodeRow.below {w w' : World} {B : Nat} {a : Option Addr} {len : Nat} (h : CodeRow w B a len) (hb : Below B w w') : CodeRow w' B a len := by
  refine ⟨h.1, ?_⟩
  rcases h.2 with h0 | ⟨b, off, ha, hlt, hc⟩
  · exact .inl h0
  · refine .inr ⟨b, off, ha, hlt, fun j hj => ?_⟩
    obtain ⟨z, h1, h2, h3⟩ := hc j hj
    exact ⟨z, h1, h2, (hb.cell (p := ⟨b, off + j, none⟩) hlt).trans h3⟩

/-- A cursor lies in block g: the code's slice, a place in it, and a number. -/
def CurAt (w : World) (g : Nat) (a : Option Addr) (len : Nat) : Prop :=
  ∃ (cap i : Nat) (h : Int), w.heap[g]? = some (.cells #[.slice a len cap, .int .i64 i, .int .i64 h] 62 (0, 0)) ∧ i ≤ len
theorem CurAt.kept {w w' : World} {g : Nat} {a : Option Addr} {len : Nat} {row : Option Nat} (h : CurAt w g a len) (hg : w.grownBy w' row) (hne : some g ≠ row) : CurAt w' g a len := by
  obtain ⟨cap, i, h, h1, h2⟩ := h
  exact ⟨cap, i, h, by rw [hg.block g (Array.getElem?_eq_some_iff.1 h1).1 hne]; exact h1, h2⟩
theorem CurAt.lt {w : World} {g : Nat} {a : Option Addr} {len : Nat} (h : CurAt w g a len) : g < w.heap.size := by
  obtain ⟨cap, i, h, h1, h2⟩ := h
  exact (Array.getElem?_eq_some_iff.1 h1).1
theorem grown_setCell (w : World) (a : Addr) (u : Value) : w.grownBy (w.setCell a u) (some a.block) :=
  ⟨rfl, rfl, rfl, by simp, fun k _ hne => heap_setCell_other w a k u (fun h => hne (by rw [h]))⟩
theorem grown_drewN (w : World) (n : Nat) (row : Option Nat) : w.grownBy (w.drewN n) row := ⟨rfl, rfl, rfl, Nat.le_refl _, fun _ _ _ => rfl⟩
theorem below_of_grown {w w' : World} {B : Nat} {row : Option Nat} (hg : w.grownBy w' row) (hB : B ≤ w.heap.size) (hr : ∀ k, row = some k → B ≤ k) : Below B w w' := (Below.refl B w).grown hg hB hr
theorem frozen_of_row {w : World} {g i : Nat} {cs : Array Value} {t : TypeId} (h : w.heap[g]? = some (.cells cs t (0, 0))) : w.frozen? ⟨g, i, none⟩ = false := by
  simp [World.frozen?, h]
theorem cur_h {w : World} {g len cap i : Nat} {a : Option Addr} {h h' : Int} (hb : w.heap[g]? = some (.cells #[.slice a len cap, .int .i64 i, .int .i64 h] 62 (0, 0))) :
    (w.setCell ⟨g, 2, none⟩ (.int .i64 h')).heap[g]? = some (.cells #[.slice a len cap, .int .i64 i, .int .i64 h'] 62 (0, 0)) := by
  rw [heap_setCell_same w g 2 _ _ _ hb]; rfl
theorem cur_i {w : World} {g len cap i i' : Nat} {a : Option Addr} {h : Int} (hb : w.heap[g]? = some (.cells #[.slice a len cap, .int .i64 i, .int .i64 h] 62 (0, 0))) :
    (w.setCell ⟨g, 1, none⟩ (.int .i64 i')).heap[g]? = some (.cells #[.slice a len cap, .int .i64 i', .int .i64 h] 62 (0, 0)) := by
  rw [heap_setCell_same w g 1 _ _ _ hb]; rfl
theorem i64_and255 (n : Int) : bits .and .i64 n 255 = n % 256 := by
  have h255 : (BitVec.ofInt 64 255).toNat = 2 ^ 8 - 1 := by decide
  have key : (BitVec.ofInt 64 n &&& BitVec.ofInt 64 255).toNat = (n % ((2 ^ 64 : Nat) : Int)).toNat % 2 ^ 8 := by
    rw [BitVec.toNat_and, BitVec.toNat_ofInt, h255, Nat.and_two_pow_sub_one_eq_mod]
  show IntKind.i64.wrap ((BitVec.ofInt 64 n &&& BitVec.ofInt 64 255).toNat : Nat) = n % 256
  rw [key, IntKind.wrap_i64]
  omega
end Go.Proofs.Ytkakiollhhmmaaa

namespace Go.Proofs.Ytkakiollhhmmaaa
open Go.RowKit
set_option linter.unusedVariables false

set_option maxHeartbeats 800000 in
theorem new_any (a : Option Addr) (len cap B : Nat) (w : World) (hc : CodeRow w B a len) (hB : B ≤ w.heap.size) :
    Calls Try.prog 21 #[.slice a len cap] w fun e w' => e = .returned (.pointer (some ⟨w.heap.size, 0, none⟩)) ∧ ∃ h : Int, w' = w.alloc (.cells #[.slice a len cap, .int .i64 0, .int .i64 h] 62) := by
  have hl := hc.1
  have HC : Hid (CodeRow w B a len) := hc
  clear hc
  go_enter Try.func21, Try.ntmps21
  go_wp2
  go_loop [3, 4] (fun x i => ∃ k : Nat, k ≤ len ∧ i = .int .i64 k ∧ ∃ h : Int, x = .int .i64 h) (fun _ i => len - (intOf i).toNat)
  case atStart => exact ⟨0, Nat.zero_le _, rfl, _, rfl⟩
  case round =>
    obtain ⟨k, hk, rfl, h, rfl⟩ := hrel
    by_cases hlt : k < len
    · by_cases h4 : (k : Int) < 4000
      · obtain ⟨b, off, rfl, hbB, hcell⟩ : ∃ b off, a = some ⟨b, off, none⟩ ∧ b < B ∧ ∀ j, j < len → ∃ z : Int, 0 ≤ z ∧ z ≤ 255 ∧ w.cell? ⟨b, off + j, none⟩ = some (.int .u8 z) := by
          rcases HC.out.2 with h0 | h0
          · omega
          · exact h0
        obtain ⟨z, hz0, hz1, hz⟩ := hcell k hlt
        clear hcell
        go_wp2
        go_round
        case rel => exact ⟨k + 1, by omega, by go_num, _, rfl⟩
        case measure => simp [intOf]; omega
      · go_wp2
        go_ret
        exact ⟨rfl, h, rfl⟩
    · go_wp2
      go_ret
      exact ⟨rfl, h, rfl⟩

theorem new_cur (a : Option Addr) (len cap B : Nat) (w : World) (hc : CodeRow w B a len) (hB : B ≤ w.heap.size) :
    Calls Try.prog 21 #[.slice a len cap] w fun e w' => e = .returned (.pointer (some ⟨w.heap.size, 0, none⟩)) ∧ CurAt w' w.heap.size a len ∧ Below w.heap.size w w' :=
  (new_any a len cap B w hc hB).mono fun e w' ⟨h1, h, h2⟩ => by
    subst h2
    exact ⟨h1, ⟨cap, 0, h, heap_alloc_new w _, Nat.zero_le _⟩, (Below.refl _ _).alloc (Nat.le_refl _) _⟩

set_option maxHeartbeats 1600000 in
theorem byte_any (g : Nat) (a : Option Addr) (len B : Nat) (w : World) (hc : CodeRow w B a len) (hB : B ≤ g) (hcur : CurAt w g a len) :
    Calls Try.prog 38 #[.pointer (some ⟨g, 0, none⟩)] w fun e w' => ∃ x : Int, e = .returned (.int .i64 x) ∧ 0 ≤ x ∧ x ≤ 255 ∧ CurAt w' g a len ∧ w.grownBy w' (some g) := by
  obtain ⟨cap, i, h, hb, hi⟩ := hcur
  have hl := hc.1
  have hgl : g < w.heap.size := (Array.getElem?_eq_some_iff.1 hb).1
  have c0 : w.cell? ⟨g, 0, none⟩ = some (.slice a len cap) := by rw [cell_of_row w g 0 _ 62 (0, 0) hb]; rfl
  have c1 : w.cell? ⟨g, 1, none⟩ = some (.int .i64 i) := by rw [cell_of_row w g 1 _ 62 (0, 0) hb]; rfl
  have c2 : w.cell? ⟨g, 2, none⟩ = some (.int .i64 h) := by rw [cell_of_row w g 2 _ 62 (0, 0) hb]; rfl
  have f1 : w.frozen? ⟨g, 1, none⟩ = false := frozen_of_row hb
  have f2 : w.frozen? ⟨g, 2, none⟩ = false := frozen_of_row hb
  have HB : Hid (w.heap[g]? = some (.cells #[.slice a len cap, .int .i64 i, .int .i64 h] 62 (0, 0))) := hb
  have HC : Hid (CodeRow w B a len) := hc
  have ha := i64_and255
  clear hb hc
  by_cases hlt : i < len
  · obtain ⟨b, off, rfl, hbB, hcell⟩ : ∃ b off, a = some ⟨b, off, none⟩ ∧ b < B ∧ ∀ j, j < len → ∃ z : Int, 0 ≤ z ∧ z ≤ 255 ∧ w.cell? ⟨b, off + j, none⟩ = some (.int .u8 z) := by
      rcases HC.out.2 with h0 | h0
      · omega
      · exact h0
    obtain ⟨z, hz0, hz1, hz⟩ := hcell i hlt
    clear hcell
    have l0 : (0 : Int) ≤ (i : Int) := by omega
    have l1 : (i : Int) < (len : Int) := by omega
    have hne : ¬ b = g := by omega
    go_enter Try.func38, Try.ntmps38
    go_wp2
    go_quiet (fail)
    go_wp2
    go_quiet (fail)
    go_wp2
    go_quiet (fail)
    go_wp2
    go_ret
    refine ⟨_, rfl, Int.emod_nonneg _ (by decide), Int.le_of_lt_add_one (Int.emod_lt_of_pos _ (by decide)), ?_, ?_⟩
    · exact ⟨cap, i + 1, _, cur_i (i' := i + 1) (w := World.drewN _ _) (cur_h HB.out), by omega⟩
    · exact ((grown_setCell w ⟨g, 2, none⟩ _).trans (grown_drewN _ _ _)).trans (grown_setCell _ ⟨g, 1, none⟩ _)
  · have hge : (len : Int) ≤ (i : Int) := by omega
    go_enter Try.func38, Try.ntmps38
    go_wp2
    go_quiet (fail)
    go_wp2
    go_quiet (fail)
    go_wp2
    go_ret
    refine ⟨_, rfl, Int.emod_nonneg _ (by decide), Int.le_of_lt_add_one (Int.emod_lt_of_pos _ (by decide)), ⟨cap, i, _, cur_h HB.out, hi⟩, ?_⟩
    exact ((grown_setCell w ⟨g, 2, none⟩ _).trans (grown_drewN _ _ _)).trans (grown_drewN _ _ _)

/-- What a call on a cursor leaves: the cursor, and all but it as it was. -/
def CurKept (w w' : World) (g : Nat) (a : Option Addr) (len : Nat) : Prop := CurAt w' g a len ∧ w.grownBy w' (some g)
theorem CurKept.code {w w' : World} {g B : Nat} {a : Option Addr} {len : Nat} (h : CurKept w w' g a len) (hc : CodeRow w B a len) (hB : B ≤ g) (hg : B ≤ w.heap.size) : CodeRow w' B a len :=
  hc.below (below_of_grown h.2 hg (fun k hk => by cases hk; exact hB))
theorem CurKept.trans {w w1 w2 : World} {g : Nat} {a : Option Addr} {len : Nat} (h : CurKept w w1 g a len) (k : CurKept w1 w2 g a len) : CurKept w w2 g a len := ⟨k.1, h.2.trans k.2⟩

set_option maxHeartbeats 800000 in
theorem below_any (g : Nat) (a : Option Addr) (len B : Nat) (n : Int) (w : World) (hc : CodeRow w B a len) (hB : B ≤ g) (hcur : CurAt w g a len) (h1 : 1 ≤ n) (h2 : n ≤ 4294967296) :
    Calls Try.prog 39 #[.pointer (some ⟨g, 0, none⟩), .int .i64 n] w fun e w' => ∃ x : Int, e = .returned (.int .i64 x) ∧ 0 ≤ x ∧ x < n ∧ CurKept w w' g a len := by
  have hgB : B ≤ w.heap.size := by have := hcur.lt; omega
  by_cases hs : n ≤ 256
  · go_enter Try.func39, Try.ntmps39
    go_wp2_with (go_at_call 38; refine (byte_any g a len B _ hc hB hcur).mono ?_; rintro e w1 ⟨x, rfl, hx0, hx1, hk⟩)
    go_ret
    exact ⟨_, rfl, Int.emod_nonneg _ (by omega), Int.emod_lt_of_pos _ (by omega), hk⟩
  · go_enter Try.func39, Try.ntmps39
    go_wp2_with fail
    refine (byte_any g a len B _ hc hB hcur).mono ?_
    rintro e w1 ⟨x1, rfl, hx1, hy1, hk1⟩
    have hc1 := CurKept.code hk1 hc hB hgB
    go_wp2_with fail
    refine (byte_any g a len B _ hc1 hB hk1.1).mono ?_
    rintro e w2 ⟨x2, rfl, hx2, hy2, hk2⟩
    have hc2 := CurKept.code hk2 hc1 hB (Nat.le_trans hgB hk1.2.size)
    go_wp2_with fail
    refine (byte_any g a len B _ hc2 hB hk2.1).mono ?_
    rintro e w3 ⟨x3, rfl, hx3, hy3, hk3⟩
    have hc3 := CurKept.code hk3 hc2 hB (Nat.le_trans hgB (Nat.le_trans hk1.2.size hk2.2.size))
    go_wp2_with fail
    refine (byte_any g a len B _ hc3 hB hk3.1).mono ?_
    rintro e w4 ⟨x4, rfl, hx4, hy4, hk4⟩
    go_wp2
    go_ret
    exact ⟨_, rfl, Int.emod_nonneg _ (by omega), Int.emod_lt_of_pos _ (by omega), ((CurKept.trans hk1 hk2).trans hk3).trans hk4⟩
end Go.Proofs.Ytkakiollhhmmaaa

namespace Go.Proofs.Ytkakiollhhmmaaa
open Go.RowKit
set_option linter.unusedVariables false

/-- The bytes of a code, as numbers, wherever they lie below B. -/
def CodeV (w : World) (B : Nat) (a : Option Addr) (zs : List Int) : Prop :=
  zs.length ≤ 2000000 ∧ (∀ j, 0 ≤ zs.getD j 0 ∧ zs.getD j 0 ≤ 255) ∧ (zs = [] ∨ ∃ b off, a = some ⟨b, off, none⟩ ∧ b < B ∧ ∀ j, j < zs.length → w.cell? ⟨b, off + j, none⟩ = some (.int .u8 (zs.getD j 0)))
theorem CodeV.below {w w' : World} {B : Nat} {a : Option Addr} {zs : List Int} (h : CodeV w B a zs) (hb : Below B w w') : CodeV w' B a zs := by
  refine ⟨h.1, h.2.1, ?_⟩
  rcases h.2.2 with h0 | ⟨b, off, ha, hlt, hc⟩
  · exact .inl h0
  · exact .inr ⟨b, off, ha, hlt, fun j hj => (hb.cell (p := ⟨b, off + j, none⟩) hlt).trans (hc j hj)⟩
/-- A cursor in block g: its place in the code and its number. -/
def CurV (w : World) (g : Nat) (a : Option Addr) (len : Nat) (S : Nat × Int) : Prop :=
  ∃ cap : Nat, w.heap[g]? = some (.cells #[.slice a len cap, .int .i64 (S.1 : Int), .int .i64 S.2] 62 (0, 0)) ∧ S.1 ≤ len

/-- The number of a cursor, drawn on. -/
def hN (h : Int) : Int := wrap64 (wrap64 (h * 6364136223846793005) + 1442695040888963407)
def xN (h : Int) : Int := bits BinOp.xor IntKind.i64 (hN h / 8589934592) (hN h / 35184372088832)
/-- What a cursor gives, and its state behind it. -/
def byteF (zs : List Int) (S : Nat × Int) : Int × (Nat × Int) :=
  if S.1 < zs.length then ((xN S.2 + zs.getD S.1 0) % 256, (S.1 + 1, hN S.2)) else (xN S.2 % 256, (S.1, hN S.2))
theorem byteF_bd (zs : List Int) (S : Nat × Int) : 0 ≤ (byteF zs S).1 ∧ (byteF zs S).1 ≤ 255 := by
  unfold byteF
  split
  · exact ⟨Int.emod_nonneg _ (by decide), Int.le_of_lt_add_one (Int.emod_lt_of_pos _ (by decide))⟩
  · exact ⟨Int.emod_nonneg _ (by decide), Int.le_of_lt_add_one (Int.emod_lt_of_pos _ (by decide))⟩
/-- What a call on a cursor leaves: the cursor in its new state, and all but it as it was. -/
def CurTo (w w' : World) (g : Nat) (a : Option Addr) (len : Nat) (S : Nat × Int) : Prop := CurV w' g a len S ∧ w.grownBy w' (some g)
theorem CurV.lt {w : World} {g : Nat} {a : Option Addr} {len : Nat} {S : Nat × Int} (h : CurV w g a len S) : g < w.heap.size := by
  obtain ⟨cap, h1, _⟩ := h
  exact (Array.getElem?_eq_some_iff.1 h1).1
theorem CurV.kept {w w' : World} {g : Nat} {a : Option Addr} {len : Nat} {S : Nat × Int} {row : Option Nat} (h : CurV w g a len S) (hg : w.grownBy w' row) (hne : some g ≠ row) : CurV w' g a len S := by
  obtain ⟨cap, h1, h2⟩ := h
  exact ⟨cap, by rw [hg.block g (Array.getElem?_eq_some_iff.1 h1).1 hne]; exact h1, h2⟩
theorem CurTo.code {w w' : World} {g B : Nat} {a : Option Addr} {zs : List Int} {S : Nat × Int} (h : CurTo w w' g a zs.length S) (hc : CodeV w B a zs) (hB : B ≤ g) (hg : B ≤ w.heap.size) : CodeV w' B a zs :=
  hc.below (below_of_grown h.2 hg (fun k hk => by cases hk; exact hB))

set_option maxHeartbeats 1600000 in
theorem byte_val (g : Nat) (a : Option Addr) (zs : List Int) (B : Nat) (S : Nat × Int) (w : World) (hc : CodeV w B a zs) (hB : B ≤ g) (hcur : CurV w g a zs.length S) :
    Calls Try.prog 38 #[.pointer (some ⟨g, 0, none⟩)] w fun e w' => e = .returned (.int .i64 (byteF zs S).1) ∧ CurTo w w' g a zs.length (byteF zs S).2 := by
  obtain ⟨i, h⟩ := S
  obtain ⟨cap, hb, hi⟩ := hcur
  simp only at hb hi
  obtain ⟨len, hlen⟩ : ∃ len, len = zs.length := ⟨_, rfl⟩
  rw [← hlen] at hb hi
  have hl : len ≤ 2000000 := by rw [hlen]; exact hc.1
  have hgl : g < w.heap.size := (Array.getElem?_eq_some_iff.1 hb).1
  have c0 : w.cell? ⟨g, 0, none⟩ = some (.slice a len cap) := by rw [cell_of_row w g 0 _ 62 (0, 0) hb]; rfl
  have c1 : w.cell? ⟨g, 1, none⟩ = some (.int .i64 i) := by rw [cell_of_row w g 1 _ 62 (0, 0) hb]; rfl
  have c2 : w.cell? ⟨g, 2, none⟩ = some (.int .i64 h) := by rw [cell_of_row w g 2 _ 62 (0, 0) hb]; rfl
  have f1 : w.frozen? ⟨g, 1, none⟩ = false := frozen_of_row hb
  have f2 : w.frozen? ⟨g, 2, none⟩ = false := frozen_of_row hb
  have HB : Hid (w.heap[g]? = some (.cells #[.slice a len cap, .int .i64 (i : Int), .int .i64 h] 62 (0, 0))) := hb
  have HC : Hid (CodeV w B a zs ∧ len = zs.length) := ⟨hc, hlen⟩
  have ha := i64_and255
  clear hb hc hlen
  by_cases hlt : i < len
  · obtain ⟨b, off, rfl, hbB, hcell⟩ : ∃ b off, a = some ⟨b, off, none⟩ ∧ b < B ∧ ∀ j, j < len → w.cell? ⟨b, off + j, none⟩ = some (.int .u8 (zs.getD j 0)) := by
      rcases HC.out.1.2.2 with h0 | ⟨b, off, h1, h2, h3⟩
      · have := HC.out.2; rw [h0] at this; simp at this; omega
      · exact ⟨b, off, h1, h2, fun j hj => h3 j (by rw [← HC.out.2]; exact hj)⟩
    have hz := hcell i hlt
    obtain ⟨hz0, hz1⟩ := HC.out.1.2.1 i
    clear hcell
    have HF : Hid (byteF zs (i, h) = ((xN h + zs.getD i 0) % 256, (i + 1, hN h))) := by show _ = _; unfold byteF; rw [if_pos (by show i < _; rw [← HC.out.2]; exact hlt)]
    rw [← HC.out.2]
    generalize zs.getD i 0 = z at *
    have l0 : (0 : Int) ≤ (i : Int) := by omega
    have l1 : (i : Int) < (len : Int) := by omega
    have hne : ¬ b = g := by omega
    go_enter Try.func38, Try.ntmps38
    go_wp2
    go_quiet (fail)
    go_wp2
    go_quiet (fail)
    go_wp2
    go_quiet (fail)
    go_wp2
    go_ret
    rw [HF.out]
    refine ⟨rfl, ⟨cap, cur_i (i' := i + 1) (w := World.drewN _ _) (cur_h HB.out), by show i + 1 ≤ len; omega⟩, ?_⟩
    exact ((grown_setCell w ⟨g, 2, none⟩ _).trans (grown_drewN _ _ _)).trans (grown_setCell _ ⟨g, 1, none⟩ _)
  · have hge : (len : Int) ≤ (i : Int) := by omega
    have HF : Hid (byteF zs (i, h) = (xN h % 256, (i, hN h))) := by show _ = _; unfold byteF; rw [if_neg (by show ¬ i < _; rw [← HC.out.2]; exact hlt)]
    rw [← HC.out.2]
    go_enter Try.func38, Try.ntmps38
    go_wp2
    go_quiet (fail)
    go_wp2
    go_quiet (fail)
    go_wp2
    go_ret
    rw [HF.out]
    refine ⟨rfl, ⟨cap, cur_h HB.out, by omega⟩, ?_⟩
    exact ((grown_setCell w ⟨g, 2, none⟩ _).trans (grown_drewN _ _ _)).trans (grown_drewN _ _ _)

/-- The number that a cursor begins with, behind k bytes. -/
def newH (zs : List Int) : Nat → Int
  | 0 => 94701 + (zs.length : Int)
  | k + 1 => bits BinOp.and IntKind.i64 (wrap64 (wrap64 (wrap64 (newH zs k * 131) + zs.getD k 0) + 7)) 1073741823
def newF (zs : List Int) : Nat × Int := (0, newH zs (min zs.length 4000))

set_option maxHeartbeats 800000 in
theorem new_val (a : Option Addr) (cap B : Nat) (zs : List Int) (w : World) (hc : CodeV w B a zs) (hB : B ≤ w.heap.size) :
    Calls Try.prog 21 #[.slice a zs.length cap] w fun e w' => e = .returned (.pointer (some ⟨w.heap.size, 0, none⟩)) ∧ CurV w' w.heap.size a zs.length (newF zs) ∧ Below w.heap.size w w' := by
  have hl := hc.1
  have HC : Hid (CodeV w B a zs) := hc
  clear hc
  obtain ⟨len, hlen⟩ : ∃ len, len = zs.length := ⟨_, rfl⟩
  have HN : Hid (len = zs.length) := hlen
  rw [← hlen] at hl ⊢
  clear hlen
  go_enter Try.func21, Try.ntmps21
  go_wp2
  go_loop [3, 4] (fun x i => ∃ k : Nat, k ≤ len ∧ (k : Int) ≤ 4000 ∧ i = .int .i64 k ∧ x = .int .i64 (newH zs k)) (fun _ i => len - (intOf i).toNat)
  case atStart => exact ⟨0, Nat.zero_le _, by omega, rfl, by rw [newH, ← HN.out]⟩
  case round =>
    obtain ⟨k, hk, hk4, rfl, rfl⟩ := hrel
    by_cases hlt : k < len
    · by_cases h4 : (k : Int) < 4000
      · obtain ⟨b, off, rfl, hbB, hcell⟩ : ∃ b off, a = some ⟨b, off, none⟩ ∧ b < B ∧ ∀ j, j < len → w.cell? ⟨b, off + j, none⟩ = some (.int .u8 (zs.getD j 0)) := by
          rcases HC.out.2.2 with h0 | ⟨b, off, h1, h2, h3⟩
          · have := HN.out; rw [h0] at this; simp at this; omega
          · exact ⟨b, off, h1, h2, fun j hj => h3 j (by rw [← HN.out]; exact hj)⟩
        have hz := hcell k hlt
        obtain ⟨hz0, hz1⟩ := HC.out.2.1 k
        have HH : Hid (newH zs (k + 1) = bits BinOp.and IntKind.i64 (wrap64 (wrap64 (wrap64 (newH zs k * 131) + zs.getD k 0) + 7)) 1073741823) := rfl
        clear hcell
        generalize newH zs k = h at *
        generalize zs.getD k 0 = z at *
        go_wp2
        go_round
        case rel => exact ⟨k + 1, by omega, by omega, by go_num, by rw [HH.out]⟩
        case measure => simp [intOf]; omega
      · have HV : Hid (newF zs = (0, newH zs k)) := by show _ = _; unfold newF; rw [show min zs.length 4000 = k by have := HN.out; omega]
        go_wp2
        go_ret
        rw [HV.out]
        exact ⟨rfl, ⟨cap, heap_alloc_new w _, Nat.zero_le _⟩, (Below.refl _ _).alloc (Nat.le_refl _) _⟩
    · have HV : Hid (newF zs = (0, newH zs k)) := by show _ = _; unfold newF; rw [show min zs.length 4000 = k by have := HN.out; omega]
      go_wp2
      go_ret
      rw [HV.out]
      exact ⟨rfl, ⟨cap, heap_alloc_new w _, Nat.zero_le _⟩, (Below.refl _ _).alloc (Nat.le_refl _) _⟩

def belF (zs : List Int) (n : Int) (S : Nat × Int) : Int × (Nat × Int) := ((byteF zs S).1 % n, (byteF zs S).2)
theorem belF_bd (zs : List Int) (n : Int) (S : Nat × Int) (h : 1 ≤ n) : 0 ≤ (belF zs n S).1 ∧ (belF zs n S).1 < n := ⟨Int.emod_nonneg _ (by omega), Int.emod_lt_of_pos _ (by omega)⟩
set_option maxHeartbeats 800000 in
theorem below_val (g : Nat) (a : Option Addr) (zs : List Int) (B : Nat) (n : Int) (S : Nat × Int) (w : World) (hc : CodeV w B a zs) (hB : B ≤ g) (hcur : CurV w g a zs.length S) (h1 : 1 ≤ n) (h2 : n ≤ 256) :
    Calls Try.prog 39 #[.pointer (some ⟨g, 0, none⟩), .int .i64 n] w fun e w' => e = .returned (.int .i64 (belF zs n S).1) ∧ CurTo w w' g a zs.length (belF zs n S).2 := by
  obtain ⟨b0, b1⟩ := byteF_bd zs S
  have HV : Hid (belF zs n S = ((byteF zs S).1 % n, (byteF zs S).2)) := rfl
  have HC : Hid (Calls _ _ _ _ _) := byte_val g a zs B S w hc hB hcur
  clear hc hcur
  generalize (byteF zs S).1 = x at *
  generalize (byteF zs S).2 = S2 at *
  go_enter Try.func39, Try.ntmps39
  go_wp2_with (go_at_call 38; refine HC.out.mono ?_; rintro e w1 ⟨rfl, hk⟩)
  go_ret
  rw [HV.out]
  exact ⟨rfl, hk⟩
end Go.Proofs.Ytkakiollhhmmaaa

namespace Go.Proofs.Ytkakiollhhmmaaa
open Go.RowKit
set_option linter.unusedVariables false

theorem infoB : (Try.prog.info? 5).map (fun i => (i.zero, i.size, i.bytes)) = some (some (.int .u8 0), 1, 1) := by kernel_rfl
theorem convD {w : World} {B n : Nat} {v : Value} {zs : List Int} (h : w.ownsRow B 5 1 v n (zs.map (Value.int .u8))) :
    (convert 22 9 v).run Try.prog w = .ok (.string (strOfNums zs)) w := by
  have hl := h.1
  simp at hl
  rcases h.2 with ⟨rfl, rfl⟩ | ⟨g, cap, cur, rfl, _, hg, hn, _, hsz, htake⟩
  · rw [run_convert_bytes_nil w 22 5 Try.underlying22 Try.underlying5 0 0 9 Try.underlying9]
    have : zs = [] := List.eq_nil_of_length_eq_zero hl
    subst this; rfl
  · refine run_convert_bytes_arg w 22 5 Try.underlying22 Try.underlying5 g 0 n cap zs hl (fun i hi => ?_) 9 Try.underlying9
    rw [Nat.zero_add, cell_of_row w g i cur 5 (0, 0) hg]
    have hi' : i < zs.length := by omega
    have e1 : (cur.toList.take (n * 1))[i]? = (zs.map (Value.int .u8))[i]? := by rw [htake]
    rw [List.getElem?_take, if_pos (by omega)] at e1
    simp [List.getElem?_eq_getElem hi'] at e1 ⊢
    exact e1

/-- What a round that appends leaves: the cursor, the row, and all that was there but the cursor. -/
theorem cur_append {w wr w1 w2 : World} {g : Nat} {a : Option Addr} {len e n m : Nat} {v v' : Value} {xs ys : List Value} {o : Obj}
    (hgr : w.grownBy wr (some g)) (hown : wr.ownsRow w.heap.size e 1 v n xs) (hgw : g < w.heap.size) (hk : CurKept wr w1 g a len)
    (hgrow : (w1.alloc o).grownBy w2 v.ownBlock) : CurAt w2 g a len ∧ w.grownBy w2 (some g) := by
  have hne : some g ≠ v.ownBlock := fun h => by have := (hown.lt g h.symm).1; omega
  refine ⟨(hk.1.kept (World.grownBy_alloc w1 o none) (by simp)).kept hgrow hne, ?_⟩
  refine ((hgr.trans hk.2).trans (World.grownBy_alloc w1 o (some g))).andThen hgrow (fun j hj => .inl (hown.lt j hj).1)
theorem own_cur {w wr w1 : World} {g : Nat} {a : Option Addr} {len e n : Nat} {v : Value} {xs : List Value}
    (hown : wr.ownsRow w.heap.size e 1 v n xs) (hgw : g < w.heap.size) (hk : CurKept wr w1 g a len) : w1.ownsRow w.heap.size e 1 v n xs :=
  hown.kept hk.2 (.inr fun h => by have := (hown.lt g h).1; omega)
end Go.Proofs.Ytkakiollhhmmaaa

namespace Go.Proofs.Ytkakiollhhmmaaa
open Go.RowKit
set_option linter.unusedVariables false

/-- The dots that are drawn from a dot on, and the state behind them. -/
def dotsG (zs : List Int) : Nat → Int → (Nat × Int) → List Int × (Nat × Int)
  | 0, _, S => ([], S)
  | n + 1, x, S =>
    if (belF zs 6 S).1 = 0 then ((byteF zs (belF zs 6 S).2).1 :: (dotsG zs n (byteF zs (belF zs 6 S).2).1 (byteF zs (belF zs 6 S).2).2).1, (dotsG zs n (byteF zs (belF zs 6 S).2).1 (byteF zs (belF zs 6 S).2).2).2)
    else if (belF zs 6 S).1 = 1 then ((x + (belF zs 9 (belF zs 6 S).2).1 + 252) % 256 :: (dotsG zs n ((x + (belF zs 9 (belF zs 6 S).2).1 + 252) % 256) (belF zs 9 (belF zs 6 S).2).2).1, (dotsG zs n ((x + (belF zs 9 (belF zs 6 S).2).1 + 252) % 256) (belF zs 9 (belF zs 6 S).2).2).2)
    else (x :: (dotsG zs n x (belF zs 6 S).2).1, (dotsG zs n x (belF zs 6 S).2).2)
def dotsF (zs : List Int) (n : Nat) (S : Nat × Int) : List Int × (Nat × Int) := dotsG zs n (byteF zs S).1 (byteF zs S).2
theorem dotsG_len (zs : List Int) : ∀ (n : Nat) (x : Int) (S : Nat × Int), (dotsG zs n x S).1.length = n
  | 0, _, _ => rfl
  | n + 1, x, S => by
    rw [dotsG]
    split
    · simp [dotsG_len zs n]
    · split
      · simp [dotsG_len zs n]
      · simp [dotsG_len zs n]
theorem dotsF_len (zs : List Int) (n : Nat) (S : Nat × Int) : (dotsF zs n S).1.length = n := dotsG_len zs n _ _

theorem cur_on {w wr w1 w2 : World} {g : Nat} {a : Option Addr} {len e n : Nat} {v : Value} {xs : List Value} {o : Obj} {S : Nat × Int}
    (hgr : w.grownBy wr (some g)) (hown : wr.ownsRow w.heap.size e 1 v n xs) (hgw : g < w.heap.size) (hk : CurTo wr w1 g a len S)
    (hgrow : (w1.alloc o).grownBy w2 v.ownBlock) : CurV w2 g a len S ∧ w.grownBy w2 (some g) := by
  have hown' := hown.kept hk.2 (.inr (fun h => by have := (hown.lt g h).1; omega))
  exact ⟨(hk.1.kept (World.grownBy_alloc w1 o none) (by simp)).kept hgrow (fun h => by have := (hown'.lt g h.symm).1; omega),
    ((hgr.trans hk.2).trans (World.grownBy_alloc w1 o _)).andThen hgrow (fun k hk' => .inl (hown'.lt k hk').1)⟩

set_option maxHeartbeats 3200000 in
theorem dots_val (g : Nat) (a : Option Addr) (zs : List Int) (B n : Nat) (S : Nat × Int) (w : World) (hc : CodeV w B a zs) (hB : B ≤ g) (hcur : CurV w g a zs.length S) (hn : (n : Int) ≤ 100000) :
    Calls Try.prog 24 #[.pointer (some ⟨g, 0, none⟩), .int .i64 (n : Int)] w fun e w' => e = .returned (.string (strOfNums (dotsF zs n S).1)) ∧ CurTo w w' g a zs.length (dotsF zs n S).2 := by
  obtain ⟨i0, hi0, hz0, hz1, hz2⟩ := info_parts infoB
  have hgw := hcur.lt
  have HC : Hid (∀ w', w.grownBy w' (some g) → CodeV w' B a zs) := fun w' h => hc.below (below_of_grown h (by omega) (fun k hk => by cases hk; exact hB))
  have ha := i64_and255
  obtain ⟨X, ST, HXS⟩ : ∃ X ST, Hid (dotsF zs n S = (X, ST)) := ⟨_, _, rfl⟩
  have HD0 : Hid (dotsF zs n S = dotsG zs n (byteF zs S).1 (byteF zs S).2) := rfl
  obtain ⟨bx0, bx1⟩ := byteF_bd zs S
  have hg1 : w.grownBy (w.alloc (.cells #[] 5)) (some g) := World.grownBy_alloc w _ _
  have HB0 : Hid (Calls _ _ _ _ _) := byte_val g a zs B S _ (HC.out _ hg1) hB (hcur.kept (World.grownBy_alloc w (.cells #[] 5) none) (by simp))
  have HE : Hid ((dotsF zs n S).1 = X ∧ (dotsF zs n S).2 = ST) := by show _ ∧ _; rw [HXS.out]; exact ⟨rfl, rfl⟩
  have hE1 := HE.out.1
  have hE2 := HE.out.2
  rw [hE1, hE2]
  clear hE1 hE2 hc
  generalize (byteF zs S).1 = x0 at *
  generalize (byteF zs S).2 = S0 at *
  have HG : Hid ((dotsG zs n x0 S0).1 = X ∧ (dotsG zs n x0 S0).2 = ST) := by show _ ∧ _; rw [← HD0.out]; exact HE.out
  clear HE HD0 HXS hcur
  go_enter Try.func24, Try.ntmps24
  go_wp2_with fail
  refine HB0.out.mono ?_
  rintro e w0 ⟨rfl, hk0⟩
  have hgr0 : w.grownBy w0 (some g) := hg1.trans hk0.2
  have o0 : (w.alloc (.cells #[] 5)).ownsRow w.heap.size 5 1 (.slice (some ⟨w.heap.size, 0, none⟩) 0 0) 0 (([] : List Int).map (Value.int .u8)) := World.ownsRow_lit w #[] 0 (Nat.le_refl _) (by unfold maxLen; omega) rfl
  have o1 : w0.ownsRow w.heap.size 5 1 (.slice (some ⟨w.heap.size, 0, none⟩) 0 0) 0 (([] : List Int).map (Value.int .u8)) := o0.kept hk0.2 (.inr fun h => by have := (o0.lt g h).1; omega)
  have hcr0 := hk0.1
  clear o0 hk0 HB0 hg1
  go_wp2
  go_loopw [5, 6, 7] (fun v x i wr => ∃ (k : Nat) (l : List Int) (y : Int) (S' : Nat × Int), k ≤ n ∧ i = .int .i64 (k : Int) ∧ x = .int .i64 y ∧ 0 ≤ y ∧ y ≤ 255 ∧ Hid (l.length = k ∧ l ++ (dotsG zs (n - k) y S').1 = X ∧ (dotsG zs (n - k) y S').2 = ST) ∧ wr.ownsRow w.heap.size 5 1 v k (l.map (Value.int .u8)) ∧ CurV wr g a zs.length S' ∧ w.grownBy wr (some g))
    (fun _ _ i _ => n - (intOf i).toNat)
  case atStart => exact ⟨0, [], x0, S0, Nat.zero_le _, rfl, rfl, bx0, bx1, ⟨rfl, HG.out.1, HG.out.2⟩, o1, hcr0, hgr0⟩
  case round =>
    obtain ⟨k, l, y, S', hk, rfl, rfl, hy0, hy1, HL, hown, hcr, hgr⟩ := hrel
    clear o1 hcr0 hgr0 HG
    have l0 : (0 : Int) ≤ (k : Int) := by omega
    by_cases hlt : k < n
    · have l1 : (k : Int) < (n : Int) := by omega
      have hcw := HC.out wr hgr
      have hsz0 := hgr.size
      obtain ⟨z0, z1⟩ := belF_bd zs 6 S' (by omega)
      have HB6 : Hid (Calls _ _ _ _ _) := below_val g a zs B 6 S' wr hcw hB hcr (by omega) (by omega)
      have HS : Hid (dotsG zs (n - k) y S' = if (belF zs 6 S').1 = 0 then ((byteF zs (belF zs 6 S').2).1 :: (dotsG zs (n - (k + 1)) (byteF zs (belF zs 6 S').2).1 (byteF zs (belF zs 6 S').2).2).1, (dotsG zs (n - (k + 1)) (byteF zs (belF zs 6 S').2).1 (byteF zs (belF zs 6 S').2).2).2)
          else if (belF zs 6 S').1 = 1 then ((y + (belF zs 9 (belF zs 6 S').2).1 + 252) % 256 :: (dotsG zs (n - (k + 1)) ((y + (belF zs 9 (belF zs 6 S').2).1 + 252) % 256) (belF zs 9 (belF zs 6 S').2).2).1, (dotsG zs (n - (k + 1)) ((y + (belF zs 9 (belF zs 6 S').2).1 + 252) % 256) (belF zs 9 (belF zs 6 S').2).2).2)
          else (y :: (dotsG zs (n - (k + 1)) y (belF zs 6 S').2).1, (dotsG zs (n - (k + 1)) y (belF zs 6 S').2).2)) := by
        show _ = _
        rw [show n - k = (n - (k + 1)) + 1 by omega, dotsG]
      generalize (belF zs 6 S').1 = z at *
      generalize (belF zs 6 S').2 = S1 at *
      go_wp2_with fail
      refine HB6.out.mono ?_
      rintro e w1 ⟨rfl, hk1⟩
      have hcw1 := hk1.code hcw hB (by omega)
      by_cases c0 : z = 0
      · subst c0
        have HS' : Hid (dotsG zs (n - k) y S' = ((byteF zs S1).1 :: (dotsG zs (n - (k + 1)) (byteF zs S1).1 (byteF zs S1).2).1, (dotsG zs (n - (k + 1)) (byteF zs S1).1 (byteF zs S1).2).2)) := by show _ = _; rw [HS.out, if_pos rfl]
        obtain ⟨x1, x2⟩ := byteF_bd zs S1
        have HB1 : Hid (Calls _ _ _ _ _) := byte_val g a zs B S1 w1 hcw1 hB hk1.1
        generalize (byteF zs S1).1 = D at *
        generalize (byteF zs S1).2 = S2 at *
        go_wp2_with fail
        refine HB1.out.mono ?_
        rintro e w2 ⟨rfl, hk2⟩
        have hkp : CurTo wr w2 g a zs.length S2 := ⟨hk2.1, hk1.2.trans hk2.2⟩
        have hown' := hown.kept hkp.2 (.inr fun h => by have := (hown.lt g h).1; omega)
        have hsz1 := hkp.2.size
        go_wp2_with (at_builtin; refine wpList_append_lies _ (by rfl) _ _ 22 (by rfl) w.heap.size 5 i0 (.int .u8 0) 1 1 Try.underlying22 hi0 hz0 hz1 hz2 rfl (by omega) u5 k _ (by rfl) (hown'.alloc _) ⟨w2.heap.size, 0, none⟩ 1 1 [.int .u8 D] (by rfl) (by rfl) (World.news_of_block (cs := #[.int .u8 D]) (t := 5) (fr := (0, 0)) (heap_alloc_new w2 _)) (by simp [Value.oneCell']) (by omega) (by unfold maxLen; omega) (by omega) (by simp; omega) (w2.heap.size + 1) (by simp) ?_; intro gg cp w5 hown2 hgrow hat hlt2)
        have R := cur_on hgr hown hgw hkp hgrow
        have hown3 : w5.ownsRow w.heap.size 5 1 (.slice (some ⟨gg, 0, none⟩) (k + 1) cp) (k + 1) ((l ++ [D]).map (Value.int .u8)) := by simpa using hown2
        have HL2 : Hid ((l ++ [D]).length = k + 1 ∧ (l ++ [D]) ++ (dotsG zs (n - (k + 1)) D S2).1 = X ∧ (dotsG zs (n - (k + 1)) D S2).2 = ST) := by
          obtain ⟨q1, q2, q3⟩ := HL.out
          rw [HS'.out] at q2 q3
          exact ⟨by simp [q1], by rw [← q2]; simp, q3⟩
        clear hown2 hgrow hat hlt2 hown hown' hcr hkp
        go_roundw
        case rel => exact ⟨k + 1, l ++ [D], D, S2, by omega, by go_num, rfl, by omega, by omega, HL2, hown3, R.1, R.2⟩
        case measure => simp [intOf]; omega
      · by_cases c1 : z = 1
        · subst c1
          have HS' : Hid (dotsG zs (n - k) y S' = ((y + (belF zs 9 S1).1 + 252) % 256 :: (dotsG zs (n - (k + 1)) ((y + (belF zs 9 S1).1 + 252) % 256) (belF zs 9 S1).2).1, (dotsG zs (n - (k + 1)) ((y + (belF zs 9 S1).1 + 252) % 256) (belF zs 9 S1).2).2)) := by show _ = _; rw [HS.out, if_neg (by decide), if_pos rfl]
          obtain ⟨x1, x2⟩ := belF_bd zs 9 S1 (by omega)
          have HB1 : Hid (Calls _ _ _ _ _) := below_val g a zs B 9 S1 w1 hcw1 hB hk1.1 (by omega) (by omega)
          generalize (belF zs 9 S1).1 = d at *
          generalize (belF zs 9 S1).2 = S2 at *
          go_wp2_with fail
          refine HB1.out.mono ?_
          rintro e w2 ⟨rfl, hk2⟩
          have hkp : CurTo wr w2 g a zs.length S2 := ⟨hk2.1, hk1.2.trans hk2.2⟩
          have hown' := hown.kept hkp.2 (.inr fun h => by have := (hown.lt g h).1; omega)
          have hsz1 := hkp.2.size
          have hm0 : 0 ≤ (y + d + 252) % 256 := Int.emod_nonneg _ (by decide)
          have hm1 : (y + d + 252) % 256 ≤ 255 := by omega
          go_wp2_with (at_builtin; refine wpList_append_lies _ (by rfl) _ _ 22 (by rfl) w.heap.size 5 i0 (.int .u8 0) 1 1 Try.underlying22 hi0 hz0 hz1 hz2 rfl (by omega) u5 k _ (by rfl) (hown'.alloc _) ⟨w2.heap.size, 0, none⟩ 1 1 [.int .u8 ((y + d + 252) % 256)] (by rfl) (by rfl) (World.news_of_block (cs := #[.int .u8 ((y + d + 252) % 256)]) (t := 5) (fr := (0, 0)) (heap_alloc_new w2 _)) (by simp [Value.oneCell']) (by omega) (by unfold maxLen; omega) (by omega) (by simp; omega) (w2.heap.size + 1) (by simp) ?_; intro gg cp w5 hown2 hgrow hat hlt2)
          have R := cur_on hgr hown hgw hkp hgrow
          have hown3 : w5.ownsRow w.heap.size 5 1 (.slice (some ⟨gg, 0, none⟩) (k + 1) cp) (k + 1) ((l ++ [((y + d + 252) % 256)]).map (Value.int .u8)) := by simpa using hown2
          have HL2 : Hid ((l ++ [((y + d + 252) % 256)]).length = k + 1 ∧ (l ++ [((y + d + 252) % 256)]) ++ (dotsG zs (n - (k + 1)) ((y + d + 252) % 256) S2).1 = X ∧ (dotsG zs (n - (k + 1)) ((y + d + 252) % 256) S2).2 = ST) := by
            obtain ⟨q1, q2, q3⟩ := HL.out
            rw [HS'.out] at q2 q3
            exact ⟨by simp [q1], by rw [← q2]; simp, q3⟩
          clear hown2 hgrow hat hlt2 hown hown' hcr hkp
          go_roundw
          case rel => exact ⟨k + 1, l ++ [((y + d + 252) % 256)], ((y + d + 252) % 256), S2, by omega, by go_num, rfl, by omega, by omega, HL2, hown3, R.1, R.2⟩
          case measure => simp [intOf]; omega
        · have HS' : Hid (dotsG zs (n - k) y S' = (y :: (dotsG zs (n - (k + 1)) y S1).1, (dotsG zs (n - (k + 1)) y S1).2)) := by show _ = _; rw [HS.out, if_neg c0, if_neg c1]
          have hkp : CurTo wr w1 g a zs.length S1 := hk1
          have hown' := hown.kept hkp.2 (.inr fun h => by have := (hown.lt g h).1; omega)
          have hsz1 := hkp.2.size
          go_wp2_with (at_builtin; refine wpList_append_lies _ (by rfl) _ _ 22 (by rfl) w.heap.size 5 i0 (.int .u8 0) 1 1 Try.underlying22 hi0 hz0 hz1 hz2 rfl (by omega) u5 k _ (by rfl) (hown'.alloc _) ⟨w1.heap.size, 0, none⟩ 1 1 [.int .u8 y] (by rfl) (by rfl) (World.news_of_block (cs := #[.int .u8 y]) (t := 5) (fr := (0, 0)) (heap_alloc_new w1 _)) (by simp [Value.oneCell']) (by omega) (by unfold maxLen; omega) (by omega) (by simp; omega) (w1.heap.size + 1) (by simp) ?_; intro gg cp w5 hown2 hgrow hat hlt2)
          have R := cur_on hgr hown hgw hkp hgrow
          have hown3 : w5.ownsRow w.heap.size 5 1 (.slice (some ⟨gg, 0, none⟩) (k + 1) cp) (k + 1) ((l ++ [y]).map (Value.int .u8)) := by simpa using hown2
          have HL2 : Hid ((l ++ [y]).length = k + 1 ∧ (l ++ [y]) ++ (dotsG zs (n - (k + 1)) y S1).1 = X ∧ (dotsG zs (n - (k + 1)) y S1).2 = ST) := by
            obtain ⟨q1, q2, q3⟩ := HL.out
            rw [HS'.out] at q2 q3
            exact ⟨by simp [q1], by rw [← q2]; simp, q3⟩
          clear hown2 hgrow hat hlt2 hown hown' hcr hkp
          go_roundw
          case rel => exact ⟨k + 1, l ++ [y], y, S1, by omega, by go_num, rfl, by omega, by omega, HL2, hown3, R.1, R.2⟩
          case measure => simp [intOf]; omega
    · obtain rfl : k = n := by omega
      have hconv := convD hown
      have HX : Hid (l = X ∧ S' = ST) := by
        obtain ⟨q1, q2, q3⟩ := HL.out
        rw [Nat.sub_self] at q2 q3
        exact ⟨by simpa [dotsG] using q2, by simpa [dotsG] using q3⟩
      go_wp2
      go_ret
      exact ⟨by rw [← HX.out.1]; rfl, by rw [← HX.out.2]; exact hcr, hgr⟩

/-- The bytes of a text, as a list of numbers. -/
def byteL (s : ByteArray) : List Int := listF s.size (bAt s)
set_option maxHeartbeats 1600000 in
theorem ints_val (s : ByteArray) (w : World) (hs : (s.size : Int) ≤ 100000) :
    Calls Try.prog 23 #[.string s] w fun e w' => (∃ v, e = .returned v ∧ w'.ownsRow w.heap.size 3 1 v (byteL s).length ((byteL s).map (Value.int .i64))) ∧ Below w.heap.size w w' := by
  obtain ⟨i0, hi0, hz0, hz1, hz2⟩ := info_parts infoI
  have HN : Hid ((byteL s).length = s.size) := listF_length _ _
  have HF : Hid (byteL s = listF s.size (bAt s)) := rfl
  have HS : Hid (∀ k, listF (k + 1) (bAt s) = listF k (bAt s) ++ [bAt s k]) := fun k => by unfold listF; rw [List.range_succ, List.map_append]; rfl
  have o0 : (w.alloc (.cells #[] 3)).ownsRow w.heap.size 3 1 (.slice (some ⟨w.heap.size, 0, none⟩) 0 0) 0 (([] : List Int).map (Value.int .i64)) := World.ownsRow_lit w #[] 0 (Nat.le_refl _) (by unfold maxLen; omega) rfl
  have hb0 : Below w.heap.size w (w.alloc (.cells #[] 3)) := (Below.refl _ _).alloc (Nat.le_refl _) _
  go_enter Try.func23, Try.ntmps23
  go_wp2
  go_loopw [3, 4] (fun v i wr => ∃ k : Nat, k ≤ s.size ∧ i = .int .i64 (k : Int) ∧ wr.ownsRow w.heap.size 3 1 v k ((listF k (bAt s)).map (Value.int .i64)) ∧ Below w.heap.size w wr) (fun _ i _ => s.size - (intOf i).toNat)
  case atStart => exact ⟨0, Nat.zero_le _, rfl, o0, hb0⟩
  case round =>
    obtain ⟨k, hk, rfl, hown, hb⟩ := hrel
    clear o0 hb0
    have l0 : (0 : Int) ≤ (k : Int) := by omega
    by_cases hlt : k < s.size
    · have l1 : (k : Int) < (s.size : Int) := by omega
      have e1 := bAt_eq s k hlt
      have d1 := bAt_in s k
      have hbs := hb.size
      have HS' : Hid (listF (k + 1) (bAt s) = listF k (bAt s) ++ [bAt s k]) := HS.out k
      generalize bAt s k = D at *
      go_wp2_with (at_builtin; refine wpList_append_lies _ (by rfl) _ _ 24 (by rfl) w.heap.size 3 i0 (.int .i64 0) 1 8 Try.underlying24 hi0 hz0 hz1 hz2 rfl (by omega) u3 k _ (by rfl) (hown.alloc _) ⟨wr.heap.size, 0, none⟩ 1 1 [.int .i64 D] (by rfl) (by rfl) (World.news_of_block (cs := #[.int .i64 D]) (t := 3) (fr := (0, 0)) (heap_alloc_new wr _)) (by simp [Value.oneCell']) (by omega) (by unfold maxLen; omega) (by omega) (by simp; omega) (wr.heap.size + 1) (by simp) ?_; intro gg cp w6 hown2 hgrow hat hlt2)
      have hb6 := (hb.alloc hb.size (.cells #[.int .i64 D] 3)).grown hgrow (by simp; omega) (fun j hj => (hown.lt j hj).1)
      have hown3 : w6.ownsRow w.heap.size 3 1 (.slice (some ⟨gg, 0, none⟩) (k + 1) cp) (k + 1) ((listF (k + 1) (bAt s)).map (Value.int .i64)) := by
        rw [HS'.out, List.map_append]; exact hown2
      refine ⟨⟨k + 1, by omega, by go_num, hown3, hb6⟩, ?_⟩
      simp [intOf]; omega
    · obtain rfl : k = s.size := by omega
      have HO : Hid (wr.ownsRow w.heap.size 3 1 u3 (byteL s).length ((byteL s).map (Value.int .i64))) := by
        show World.ownsRow _ _ _ _ _ _ _
        rw [HN.out, HF.out]; exact hown
      go_wp2
      go_ret
      exact ⟨⟨_, rfl, HO.out⟩, hb⟩

/-- One of three. -/
def pick3F (p q r x : Int) : Int := if x = 0 then p else if x = 1 then q else r
set_option maxHeartbeats 1600000 in
theorem pick_val (g k c : Nat) (p q r : Int) (a : Option Addr) (zs : List Int) (B : Nat) (S : Nat × Int) (w : World) (hc : CodeV w B a zs) (hB : B ≤ g) (hcur : CurV w g a zs.length S) (hl : Blk w k #[.int .i64 p, .int .i64 q, .int .i64 r] 3) (hne : k ≠ g) :
    Calls Try.prog 40 #[.pointer (some ⟨g, 0, none⟩), .slice (some ⟨k, 0, none⟩) 3 c] w fun e w' => e = .returned (.int .i64 (pick3F p q r (belF zs 3 S).1)) ∧ CurTo w w' g a zs.length (belF zs 3 S).2 := by
  obtain ⟨z0, z1⟩ := belF_bd zs 3 S (by omega)
  have HB3 : Hid (Calls _ _ _ _ _) := below_val g a zs B 3 S w hc hB hcur (by omega) (by omega)
  generalize (belF zs 3 S).1 = x at *
  generalize (belF zs 3 S).2 = S1 at *
  have HP : Hid (pick3F p q r x = if x = 0 then p else if x = 1 then q else r) := rfl
  go_enter Try.func40, Try.ntmps40
  go_wp2_with fail
  refine HB3.out.mono ?_
  rintro e w1 ⟨rfl, hk⟩
  have L1 := hl.grew hk.2 (by intro e; exact hne (Option.some.inj e))
  obtain ⟨⟨y0, y1, y2⟩, _⟩ := L1.three
  clear L1
  rcases (show x = 0 ∨ x = 1 ∨ x = 2 by omega) with rfl | rfl | rfl
  · go_wp2
    go_ret
    exact ⟨by rw [HP.out]; rfl, hk⟩
  · go_wp2
    go_ret
    exact ⟨by rw [HP.out]; rfl, hk⟩
  · go_wp2
    go_ret
    exact ⟨by rw [HP.out]; rfl, hk⟩
end Go.Proofs.Ytkakiollhhmmaaa
