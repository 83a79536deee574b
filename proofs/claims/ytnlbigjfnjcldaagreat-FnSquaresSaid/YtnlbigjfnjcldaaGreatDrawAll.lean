/-
  Facts on the cursor of a draw: what it is in memory, and the few facts on numbers that its walks want.
  The walks of spec.l01New, spec.l01Byte and spec.l01Below: a cursor is laid, gives bytes, and numbers below a bound; nothing else is written.
  The draws with their values: what a cursor gives is told by its code and its state alone.
  What the walks of drawn rows share: a row that a draw appends to beside its cursor.
  A drawn par with its values: the walk of spec.l05ParRight.
  What every law over a drawn code begins with: whether the code is too long, and what of it lies in memory.
  The bytes of a code as a list.
  A drawn condition is a right one: the walks of spec.l14Cond and spec.DrawCond.
  spec.l11Levels, spec.DrawLevels: drawn levels, each within -5000 .. 5000, in memory of their own.
  The walks of spec.l11Levels and spec.DrawLevels.
  The walks of spec.l02Signs and spec.DrawRow: a drawn row has as many signs as are told, each 0 or 1.
  The walk of laws.sameInts.
-/
import Derived.WalkKit
import Derived.OwnWalk
import Derived.WalkSmall
import Derived.Laws.OwnMore
import Derived.Laws.BytesArg
import Derived.Deep.AppendLies
import Derived.Maps.AppendAt
import Derived.Test.YtnlbigjfnjcldaaGreatRows
import Derived.WalkSpells
import Derived.Deep.QuietTactic
import Derived.BigQuiet
import Derived.KernelRfl
import Derived.Maps.Range
import Derived.Test.YtnlbigjfnjcldaaGreatSetMath
import Derived.Test.YtnlbigjfnjcldaaGreatSqKit
import Derived.Test.YtnlbigjfnjcldaaGreatIntAll
import Derived.BigRegion
import Derived.ProofKit
import Derived.OpenShut
import Derived.ShutString
import Derived.ChangeOld
import Derived.Below
import Derived.Test.YtnlbigjfnjcldaaGreatCondKit
import Derived.Deep.RegionHeld3
import Derived.Deep.Cut
import Derived.Deep.CutRange
set_option maxRecDepth 20000
namespace Go.Proofs.YtnlbigjfnjcldaaGreat
open Go.RowKit
set_option linter.unusedVariables false
set_option maxRecDepth 20000

/-- The bytes of a code that came in lie below B and can be read. -/
def CodeRow (w : World) (B : Nat) (a : Option Addr) (len : Nat) : Prop :=
  len ≤ 2000000 ∧ (len = 0 ∨ ∃ b off, a = some ⟨b, off, none⟩ ∧ b < B ∧ ∀ j, j < len → ∃ z : Int, 0 ≤ z ∧ z ≤ 255 ∧ w.cell? ⟨b, off + j, none⟩ = some (.int .u8 z))
theorem CodeRow.below {w w' : World} {B : Nat} {a : Option Addr} {len : Nat} (h : CodeRow w B a len) (hb : Below B w w') : CodeRow w' B a len := by
  refine ⟨h.1, ?_⟩
  rcases h.2 with h0 | ⟨b, off, ha, hlt, hc⟩
  · exact .inl h0
  · refine .inr ⟨b, off, ha, hlt, fun j hj => ?_⟩
    obtain ⟨z, h1, h2, h3⟩ := hc j hj
    exact ⟨z, h1, h2, (hb.cell (p := ⟨b, off + j, none⟩) hlt).trans h3⟩

/-- A cursor lies in block g: the code's slice, a place in it, and a number. -/
def CurAt (w : World) (g : Nat) (a : Option Addr) (len : Nat) : Prop :=
  ∃ (cap i : Nat) (h : Int), w.heap[g]? = some (.cells #[.slice a len cap, .int .i64 i, .int .i64 h] 71 (0, 0)) ∧ i ≤ len
theorem CurAt.kept {w w' : World} {g : Nat} {a : Option Addr} {len : Nat} {row : Option Nat} (h : CurAt w g a len) (hg : w.grownBy w' row) (hne : some g ≠ row) : CurAt w' g a len := by
  obtain ⟨cap, i, h, h1, h2⟩ := h
  exact ⟨cap, i, h, by rw [hg.block g (Array.getElem?_eq_some_iff.1 h1).1 hne]; exact h1, h2⟩
theorem CurAt.lt {w : World} {g : Nat} {a : Option Addr} {len : Nat} (h : CurAt w g a len) : g < w.heap.size := by
  obtain ⟨cap, i, h, h1, h2⟩ := h
  exact (Array.getElem?_eq_some_iff.1 h1).1
theorem grown_setCell (w : World) (a : Addr) (u : Value) : w.grownBy (w.setCell a u) (some a.block) :=
  ⟨rfl, rfl, rfl, by simp, fun k _ hne => heap_setCell_other w a k u (fun h => hne (by rw [h]))⟩
theorem grown_drewN (w : World) (n : Nat) (row : Option Nat) : w.grownBy (w.drewN n) row := ⟨rfl, rfl, rfl, Nat.le_refl _, fun _ _ _ => rfl⟩
theorem below_of_grown {w w' : World} {B : Nat} {row : Option Nat} (hg : w.grownBy w' row) (hB : B ≤ w.heap.size) (hr : ∀ k, row = some k → B ≤ k) : Below B w w' := (Below.refl B w).grown hg hB hr
theorem frozen_of_row {w : World} {g i : Nat} {cs : Array Value} {t : TypeId} (h : w.heap[g]? = some (.cells cs t (0, 0))) : w.frozen? ⟨g, i, none⟩ = false := by
  simp [World.frozen?, h]
theorem cur_h {w : World} {g len cap i : Nat} {a : Option Addr} {h h' : Int} (hb : w.heap[g]? = some (.cells #[.slice a len cap, .int .i64 i, .int .i64 h] 71 (0, 0))) :
    (w.setCell ⟨g, 2, none⟩ (.int .i64 h')).heap[g]? = some (.cells #[.slice a len cap, .int .i64 i, .int .i64 h'] 71 (0, 0)) := by
  rw [heap_setCell_same w g 2 _ _ _ hb]; rfl
theorem cur_i {w : World} {g len cap i i' : Nat} {a : Option Addr} {h : Int} (hb : w.heap[g]? = some (.cells #[.slice a len cap, .int .i64 i, .int .i64 h] 71 (0, 0))) :
    (w.setCell ⟨g, 1, none⟩ (.int .i64 i')).heap[g]? = some (.cells #[.slice a len cap, .int .i64 i', .int .i64 h] 71 (0, 0)) := by
  rw [heap_setCell_same w g 1 _ _ _ hb]; rfl
theorem i64_and255 (n : Int) : bits .and .i64 n 255 = n % 256 := by
  have h255 : (BitVec.ofInt 64 255).toNat = 2 ^ 8 - 1 := by decide
  have key : (BitVec.ofInt 64 n &&& BitVec.ofInt 64 255).toNat = (n % ((2 ^ 64 : Nat) : Int)).toNat % 2 ^ 8 := by
    rw [BitVec.toNat_and, BitVec.toNat_ofInt, h255, Nat.and_two_pow_sub_one_eq_mod]
  show IntKind.i64.wrap ((BitVec.ofInt 64 n &&& BitVec.ofInt 64 255).toNat : Nat) = n % 256
  rw [key, IntKind.wrap_i64]
  omega
end Go.Proofs.YtnlbigjfnjcldaaGreat

namespace Go.Proofs.YtnlbigjfnjcldaaGreat
open Go.RowKit
set_option linter.unusedVariables false

set_option maxHeartbeats 800000 in
theorem new_any (a : Option Addr) (len cap B : Nat) (w : World) (hc : CodeRow w B a len) (hB : B ≤ w.heap.size) :
    Calls Tryz.prog 24 #[.slice a len cap] w fun e w' => e = .returned (.pointer (some ⟨w.heap.size, 0, none⟩)) ∧ ∃ h : Int, w' = w.alloc (.cells #[.slice a len cap, .int .i64 0, .int .i64 h] 71) := by
  have hl := hc.1
  have HC : Hid (CodeRow w B a len) := hc
  clear hc
  go_enter Tryz.func24, Tryz.ntmps24
  go_wp2
  go_loop [3, 4] (fun x i => ∃ k : Nat, k ≤ len ∧ i = .int .i64 k ∧ ∃ h : Int, x = .int .i64 h) (fun _ i => len - (intOf i).toNat)
  case atStart => exact ⟨0, Nat.zero_le _, rfl, _, rfl⟩
  case round =>
    obtain ⟨k, hk, rfl, h, rfl⟩ := hrel
    by_cases hlt : k < len
    · by_cases h4 : (k : Int) < 4000
      · obtain ⟨b, off, rfl, hbB, hcell⟩ : ∃ b off, a = some ⟨b, off, none⟩ ∧ b < B ∧ ∀ j, j < len → ∃ z : Int, 0 ≤ z ∧ z ≤ 255 ∧ w.cell? ⟨b, off + j, none⟩ = some (.int .u8 z) := by
          rcases HC.out.2 with h0 | h0
          · omega
          · exact h0
        obtain ⟨z, hz0, hz1, hz⟩ := hcell k hlt
        clear hcell
        go_wp2
        go_round
        case rel => exact ⟨k + 1, by omega, by go_num, _, rfl⟩
        case measure => simp [intOf]; omega
      · go_wp2
        go_ret
        exact ⟨rfl, h, rfl⟩
    · go_wp2
      go_ret
      exact ⟨rfl, h, rfl⟩

theorem new_cur (a : Option Addr) (len cap B : Nat) (w : World) (hc : CodeRow w B a len) (hB : B ≤ w.heap.size) :
    Calls Tryz.prog 24 #[.slice a len cap] w fun e w' => e = .returned (.pointer (some ⟨w.heap.size, 0, none⟩)) ∧ CurAt w' w.heap.size a len ∧ Below w.heap.size w w' :=
  (new_any a len cap B w hc hB).mono fun e w' ⟨h1, h, h2⟩ => by
    subst h2
    exact ⟨h1, ⟨cap, 0, h, heap_alloc_new w _, Nat.zero_le _⟩, (Below.refl _ _).alloc (Nat.le_refl _) _⟩

set_option maxHeartbeats 1600000 in
theorem byte_any (g : Nat) (a : Option Addr) (len B : Nat) (w : World) (hc : CodeRow w B a len) (hB : B ≤ g) (hcur : CurAt w g a len) :
    Calls Tryz.prog 50 #[.pointer (some ⟨g, 0, none⟩)] w fun e w' => ∃ x : Int, e = .returned (.int .i64 x) ∧ 0 ≤ x ∧ x ≤ 255 ∧ CurAt w' g a len ∧ w.grownBy w' (some g) := by
  obtain ⟨cap, i, h, hb, hi⟩ := hcur
  have hl := hc.1
  have hgl : g < w.heap.size := (Array.getElem?_eq_some_iff.1 hb).1
  have c0 : w.cell? ⟨g, 0, none⟩ = some (.slice a len cap) := by rw [cell_of_row w g 0 _ 71 (0, 0) hb]; rfl
  have c1 : w.cell? ⟨g, 1, none⟩ = some (.int .i64 i) := by rw [cell_of_row w g 1 _ 71 (0, 0) hb]; rfl
  have c2 : w.cell? ⟨g, 2, none⟩ = some (.int .i64 h) := by rw [cell_of_row w g 2 _ 71 (0, 0) hb]; rfl
  have f1 : w.frozen? ⟨g, 1, none⟩ = false := frozen_of_row hb
  have f2 : w.frozen? ⟨g, 2, none⟩ = false := frozen_of_row hb
  have HB : Hid (w.heap[g]? = some (.cells #[.slice a len cap, .int .i64 i, .int .i64 h] 71 (0, 0))) := hb
  have HC : Hid (CodeRow w B a len) := hc
  have ha := i64_and255
  clear hb hc
  by_cases hlt : i < len
  · obtain ⟨b, off, rfl, hbB, hcell⟩ : ∃ b off, a = some ⟨b, off, none⟩ ∧ b < B ∧ ∀ j, j < len → ∃ z : Int, 0 ≤ z ∧ z ≤ 255 ∧ w.cell? ⟨b, off + j, none⟩ = some (.int .u8 z) := by
      rcases HC.out.2 with h0 | h0
      · omega
      · exact h0
    obtain ⟨z, hz0, hz1, hz⟩ := hcell i hlt
    clear hcell
    have l0 : (0 : Int) ≤ (i : Int) := by omega
    have l1 : (i : Int) < (len : Int) := by omega
    have hne : ¬ b = g := by omega
    go_enter Tryz.func50, Tryz.ntmps50
    go_wp2
    go_quiet (fail)
    go_wp2
    go_quiet (fail)
    go_wp2
    go_quiet (fail)
    go_wp2
    go_ret
    refine ⟨_, rfl, Int.emod_nonneg _ (by decide), Int.le_of_lt_add_one (Int.emod_lt_of_pos _ (by decide)), ?_, ?_⟩
    · exact ⟨cap, i + 1, _, cur_i (i' := i + 1) (w := World.drewN _ _) (cur_h HB.out), by omega⟩
    · exact ((grown_setCell w ⟨g, 2, none⟩ _).trans (grown_drewN _ _ _)).trans (grown_setCell _ ⟨g, 1, none⟩ _)
  · have hge : (len : Int) ≤ (i : Int) := by omega
    go_enter Tryz.func50, Tryz.ntmps50
    go_wp2
    go_quiet (fail)
    go_wp2
    go_quiet (fail)
    go_wp2
    go_ret
    refine ⟨_, rfl, Int.emod_nonneg _ (by decide), Int.le_of_lt_add_one (Int.emod_lt_of_pos _ (by decide)), ⟨cap, i, _, cur_h HB.out, hi⟩, ?_⟩
    exact ((grown_setCell w ⟨g, 2, none⟩ _).trans (grown_drewN _ _ _)).trans (grown_drewN _ _ _)

/-- What a call on a cursor leaves: the cursor, and all but it as it was. -/
def CurKept (w w' : World) (g : Nat) (a : Option Addr) (len : Nat) : Prop := CurAt w' g a len ∧ w.grownBy w' (some g)
theorem CurKept.code {w w' : World} {g B : Nat} {a : Option Addr} {len : Nat} (h : CurKept w w' g a len) (hc : CodeRow w B a len) (hB : B ≤ g) (hg : B ≤ w.heap.size) : CodeRow w' B a len :=
  hc.below (below_of_grown h.2 hg (fun k hk => by cases hk; exact hB))
theorem CurKept.trans {w w1 w2 : World} {g : Nat} {a : Option Addr} {len : Nat} (h : CurKept w w1 g a len) (k : CurKept w1 w2 g a len) : CurKept w w2 g a len := ⟨k.1, h.2.trans k.2⟩

set_option maxHeartbeats 800000 in
theorem below_any (g : Nat) (a : Option Addr) (len B : Nat) (n : Int) (w : World) (hc : CodeRow w B a len) (hB : B ≤ g) (hcur : CurAt w g a len) (h1 : 1 ≤ n) (h2 : n ≤ 4294967296) :
    Calls Tryz.prog 27 #[.pointer (some ⟨g, 0, none⟩), .int .i64 n] w fun e w' => ∃ x : Int, e = .returned (.int .i64 x) ∧ 0 ≤ x ∧ x < n ∧ CurKept w w' g a len := by
  have hgB : B ≤ w.heap.size := by have := hcur.lt; omega
  by_cases hs : n ≤ 256
  · go_enter Tryz.func27, Tryz.ntmps27
    go_wp2_with (go_at_call 50; refine (byte_any g a len B _ hc hB hcur).mono ?_; rintro e w1 ⟨x, rfl, hx0, hx1, hk⟩)
    go_ret
    exact ⟨_, rfl, Int.emod_nonneg _ (by omega), Int.emod_lt_of_pos _ (by omega), hk⟩
  · go_enter Tryz.func27, Tryz.ntmps27
    go_wp2_with fail
    refine (byte_any g a len B _ hc hB hcur).mono ?_
    rintro e w1 ⟨x1, rfl, hx1, hy1, hk1⟩
    have hc1 := CurKept.code hk1 hc hB hgB
    go_wp2_with fail
    refine (byte_any g a len B _ hc1 hB hk1.1).mono ?_
    rintro e w2 ⟨x2, rfl, hx2, hy2, hk2⟩
    have hc2 := CurKept.code hk2 hc1 hB (Nat.le_trans hgB hk1.2.size)
    go_wp2_with fail
    refine (byte_any g a len B _ hc2 hB hk2.1).mono ?_
    rintro e w3 ⟨x3, rfl, hx3, hy3, hk3⟩
    have hc3 := CurKept.code hk3 hc2 hB (Nat.le_trans hgB (Nat.le_trans hk1.2.size hk2.2.size))
    go_wp2_with fail
    refine (byte_any g a len B _ hc3 hB hk3.1).mono ?_
    rintro e w4 ⟨x4, rfl, hx4, hy4, hk4⟩
    go_wp2
    go_ret
    exact ⟨_, rfl, Int.emod_nonneg _ (by omega), Int.emod_lt_of_pos _ (by omega), ((CurKept.trans hk1 hk2).trans hk3).trans hk4⟩
end Go.Proofs.YtnlbigjfnjcldaaGreat

namespace Go.Proofs.YtnlbigjfnjcldaaGreat
open Go.RowKit
set_option linter.unusedVariables false

/-- The bytes of a code, as numbers, wherever they lie below B. -/
def CodeV (w : World) (B : Nat) (a : Option Addr) (zs : List Int) : Prop :=
  zs.length ≤ 2000000 ∧ (∀ j, 0 ≤ zs.getD j 0 ∧ zs.getD j 0 ≤ 255) ∧ (zs = [] ∨ ∃ b off, a = some ⟨b, off, none⟩ ∧ b < B ∧ ∀ j, j < zs.length → w.cell? ⟨b, off + j, none⟩ = some (.int .u8 (zs.getD j 0)))
theorem CodeV.below {w w' : World} {B : Nat} {a : Option Addr} {zs : List Int} (h : CodeV w B a zs) (hb : Below B w w') : CodeV w' B a zs := by
  refine ⟨h.1, h.2.1, ?_⟩
  rcases h.2.2 with h0 | ⟨b, off, ha, hlt, hc⟩
  · exact .inl h0
  · exact .inr ⟨b, off, ha, hlt, fun j hj => (hb.cell (p := ⟨b, off + j, none⟩) hlt).trans (hc j hj)⟩
/-- A cursor in block g: its place in the code and its number. -/
def CurV (w : World) (g : Nat) (a : Option Addr) (len : Nat) (S : Nat × Int) : Prop :=
  ∃ cap : Nat, w.heap[g]? = some (.cells #[.slice a len cap, .int .i64 (S.1 : Int), .int .i64 S.2] 71 (0, 0)) ∧ S.1 ≤ len

/-- The number of a cursor, drawn on. -/
def hN (h : Int) : Int := wrap64 (wrap64 (h * 6364136223846793005) + 1442695040888963407)
def xN (h : Int) : Int := bits BinOp.xor IntKind.i64 (hN h / 8589934592) (hN h / 35184372088832)
/-- What a cursor gives, and its state behind it. -/
def byteF (zs : List Int) (S : Nat × Int) : Int × (Nat × Int) :=
  if S.1 < zs.length then ((xN S.2 + zs.getD S.1 0) % 256, (S.1 + 1, hN S.2)) else (xN S.2 % 256, (S.1, hN S.2))
theorem byteF_bd (zs : List Int) (S : Nat × Int) : 0 ≤ (byteF zs S).1 ∧ (byteF zs S).1 ≤ 255 := by
  unfold byteF
  split
  · exact ⟨Int.emod_nonneg _ (by decide), Int.le_of_lt_add_one (Int.emod_lt_of_pos _ (by decide))⟩
  · exact ⟨Int.emod_nonneg _ (by decide), Int.le_of_lt_add_one (Int.emod_lt_of_pos _ (by decide))⟩
/-- What a call on a cursor leaves: the cursor in its new state, and all but it as it was. -/
def CurTo (w w' : World) (g : Nat) (a : Option Addr) (len : Nat) (S : Nat × Int) : Prop := CurV w' g a len S ∧ w.grownBy w' (some g)
theorem CurV.lt {w : World} {g : Nat} {a : Option Addr} {len : Nat} {S : Nat × Int} (h : CurV w g a len S) : g < w.heap.size := by
  obtain ⟨cap, h1, _⟩ := h
  exact (Array.getElem?_eq_some_iff.1 h1).1
theorem CurV.kept {w w' : World} {g : Nat} {a : Option Addr} {len : Nat} {S : Nat × Int} {row : Option Nat} (h : CurV w g a len S) (hg : w.grownBy w' row) (hne : some g ≠ row) : CurV w' g a len S := by
  obtain ⟨cap, h1, h2⟩ := h
  exact ⟨cap, by rw [hg.block g (Array.getElem?_eq_some_iff.1 h1).1 hne]; exact h1, h2⟩
theorem CurTo.code {w w' : World} {g B : Nat} {a : Option Addr} {zs : List Int} {S : Nat × Int} (h : CurTo w w' g a zs.length S) (hc : CodeV w B a zs) (hB : B ≤ g) (hg : B ≤ w.heap.size) : CodeV w' B a zs :=
  hc.below (below_of_grown h.2 hg (fun k hk => by cases hk; exact hB))

set_option maxHeartbeats 1600000 in
theorem byte_val (g : Nat) (a : Option Addr) (zs : List Int) (B : Nat) (S : Nat × Int) (w : World) (hc : CodeV w B a zs) (hB : B ≤ g) (hcur : CurV w g a zs.length S) :
    Calls Tryz.prog 50 #[.pointer (some ⟨g, 0, none⟩)] w fun e w' => e = .returned (.int .i64 (byteF zs S).1) ∧ CurTo w w' g a zs.length (byteF zs S).2 := by
  obtain ⟨i, h⟩ := S
  obtain ⟨cap, hb, hi⟩ := hcur
  simp only at hb hi
  obtain ⟨len, hlen⟩ : ∃ len, len = zs.length := ⟨_, rfl⟩
  rw [← hlen] at hb hi
  have hl : len ≤ 2000000 := by rw [hlen]; exact hc.1
  have hgl : g < w.heap.size := (Array.getElem?_eq_some_iff.1 hb).1
  have c0 : w.cell? ⟨g, 0, none⟩ = some (.slice a len cap) := by rw [cell_of_row w g 0 _ 71 (0, 0) hb]; rfl
  have c1 : w.cell? ⟨g, 1, none⟩ = some (.int .i64 i) := by rw [cell_of_row w g 1 _ 71 (0, 0) hb]; rfl
  have c2 : w.cell? ⟨g, 2, none⟩ = some (.int .i64 h) := by rw [cell_of_row w g 2 _ 71 (0, 0) hb]; rfl
  have f1 : w.frozen? ⟨g, 1, none⟩ = false := frozen_of_row hb
  have f2 : w.frozen? ⟨g, 2, none⟩ = false := frozen_of_row hb
  have HB : Hid (w.heap[g]? = some (.cells #[.slice a len cap, .int .i64 (i : Int), .int .i64 h] 71 (0, 0))) := hb
  have HC : Hid (CodeV w B a zs ∧ len = zs.length) := ⟨hc, hlen⟩
  have ha := i64_and255
  clear hb hc hlen
  by_cases hlt : i < len
  · obtain ⟨b, off, rfl, hbB, hcell⟩ : ∃ b off, a = some ⟨b, off, none⟩ ∧ b < B ∧ ∀ j, j < len → w.cell? ⟨b, off + j, none⟩ = some (.int .u8 (zs.getD j 0)) := by
      rcases HC.out.1.2.2 with h0 | ⟨b, off, h1, h2, h3⟩
      · have := HC.out.2; rw [h0] at this; simp at this; omega
      · exact ⟨b, off, h1, h2, fun j hj => h3 j (by rw [← HC.out.2]; exact hj)⟩
    have hz := hcell i hlt
    obtain ⟨hz0, hz1⟩ := HC.out.1.2.1 i
    clear hcell
    have HF : Hid (byteF zs (i, h) = ((xN h + zs.getD i 0) % 256, (i + 1, hN h))) := by show _ = _; unfold byteF; rw [if_pos (by show i < _; rw [← HC.out.2]; exact hlt)]
    rw [← HC.out.2]
    generalize zs.getD i 0 = z at *
    have l0 : (0 : Int) ≤ (i : Int) := by omega
    have l1 : (i : Int) < (len : Int) := by omega
    have hne : ¬ b = g := by omega
    go_enter Tryz.func50, Tryz.ntmps50
    go_wp2
    go_quiet (fail)
    go_wp2
    go_quiet (fail)
    go_wp2
    go_quiet (fail)
    go_wp2
    go_ret
    rw [HF.out]
    refine ⟨rfl, ⟨cap, cur_i (i' := i + 1) (w := World.drewN _ _) (cur_h HB.out), by show i + 1 ≤ len; omega⟩, ?_⟩
    exact ((grown_setCell w ⟨g, 2, none⟩ _).trans (grown_drewN _ _ _)).trans (grown_setCell _ ⟨g, 1, none⟩ _)
  · have hge : (len : Int) ≤ (i : Int) := by omega
    have HF : Hid (byteF zs (i, h) = (xN h % 256, (i, hN h))) := by show _ = _; unfold byteF; rw [if_neg (by show ¬ i < _; rw [← HC.out.2]; exact hlt)]
    rw [← HC.out.2]
    go_enter Tryz.func50, Tryz.ntmps50
    go_wp2
    go_quiet (fail)
    go_wp2
    go_quiet (fail)
    go_wp2
    go_ret
    rw [HF.out]
    refine ⟨rfl, ⟨cap, cur_h HB.out, by omega⟩, ?_⟩
    exact ((grown_setCell w ⟨g, 2, none⟩ _).trans (grown_drewN _ _ _)).trans (grown_drewN _ _ _)

/-- The number that a cursor begins with, behind k bytes. -/
def newH (zs : List Int) : Nat → Int
  | 0 => 94701 + (zs.length : Int)
  | k + 1 => bits BinOp.and IntKind.i64 (wrap64 (wrap64 (wrap64 (newH zs k * 131) + zs.getD k 0) + 7)) 1073741823
def newF (zs : List Int) : Nat × Int := (0, newH zs (min zs.length 4000))

set_option maxHeartbeats 800000 in
theorem new_val (a : Option Addr) (cap B : Nat) (zs : List Int) (w : World) (hc : CodeV w B a zs) (hB : B ≤ w.heap.size) :
    Calls Tryz.prog 24 #[.slice a zs.length cap] w fun e w' => e = .returned (.pointer (some ⟨w.heap.size, 0, none⟩)) ∧ CurV w' w.heap.size a zs.length (newF zs) ∧ Below w.heap.size w w' := by
  have hl := hc.1
  have HC : Hid (CodeV w B a zs) := hc
  clear hc
  obtain ⟨len, hlen⟩ : ∃ len, len = zs.length := ⟨_, rfl⟩
  have HN : Hid (len = zs.length) := hlen
  rw [← hlen] at hl ⊢
  clear hlen
  go_enter Tryz.func24, Tryz.ntmps24
  go_wp2
  go_loop [3, 4] (fun x i => ∃ k : Nat, k ≤ len ∧ (k : Int) ≤ 4000 ∧ i = .int .i64 k ∧ x = .int .i64 (newH zs k)) (fun _ i => len - (intOf i).toNat)
  case atStart => exact ⟨0, Nat.zero_le _, by omega, rfl, by rw [newH, ← HN.out]⟩
  case round =>
    obtain ⟨k, hk, hk4, rfl, rfl⟩ := hrel
    by_cases hlt : k < len
    · by_cases h4 : (k : Int) < 4000
      · obtain ⟨b, off, rfl, hbB, hcell⟩ : ∃ b off, a = some ⟨b, off, none⟩ ∧ b < B ∧ ∀ j, j < len → w.cell? ⟨b, off + j, none⟩ = some (.int .u8 (zs.getD j 0)) := by
          rcases HC.out.2.2 with h0 | ⟨b, off, h1, h2, h3⟩
          · have := HN.out; rw [h0] at this; simp at this; omega
          · exact ⟨b, off, h1, h2, fun j hj => h3 j (by rw [← HN.out]; exact hj)⟩
        have hz := hcell k hlt
        obtain ⟨hz0, hz1⟩ := HC.out.2.1 k
        have HH : Hid (newH zs (k + 1) = bits BinOp.and IntKind.i64 (wrap64 (wrap64 (wrap64 (newH zs k * 131) + zs.getD k 0) + 7)) 1073741823) := rfl
        clear hcell
        generalize newH zs k = h at *
        generalize zs.getD k 0 = z at *
        go_wp2
        go_round
        case rel => exact ⟨k + 1, by omega, by omega, by go_num, by rw [HH.out]⟩
        case measure => simp [intOf]; omega
      · have HV : Hid (newF zs = (0, newH zs k)) := by show _ = _; unfold newF; rw [show min zs.length 4000 = k by have := HN.out; omega]
        go_wp2
        go_ret
        rw [HV.out]
        exact ⟨rfl, ⟨cap, heap_alloc_new w _, Nat.zero_le _⟩, (Below.refl _ _).alloc (Nat.le_refl _) _⟩
    · have HV : Hid (newF zs = (0, newH zs k)) := by show _ = _; unfold newF; rw [show min zs.length 4000 = k by have := HN.out; omega]
      go_wp2
      go_ret
      rw [HV.out]
      exact ⟨rfl, ⟨cap, heap_alloc_new w _, Nat.zero_le _⟩, (Below.refl _ _).alloc (Nat.le_refl _) _⟩

def belF (zs : List Int) (n : Int) (S : Nat × Int) : Int × (Nat × Int) := ((byteF zs S).1 % n, (byteF zs S).2)
theorem belF_bd (zs : List Int) (n : Int) (S : Nat × Int) (h : 1 ≤ n) : 0 ≤ (belF zs n S).1 ∧ (belF zs n S).1 < n := ⟨Int.emod_nonneg _ (by omega), Int.emod_lt_of_pos _ (by omega)⟩
set_option maxHeartbeats 800000 in
theorem below_val (g : Nat) (a : Option Addr) (zs : List Int) (B : Nat) (n : Int) (S : Nat × Int) (w : World) (hc : CodeV w B a zs) (hB : B ≤ g) (hcur : CurV w g a zs.length S) (h1 : 1 ≤ n) (h2 : n ≤ 256) :
    Calls Tryz.prog 27 #[.pointer (some ⟨g, 0, none⟩), .int .i64 n] w fun e w' => e = .returned (.int .i64 (belF zs n S).1) ∧ CurTo w w' g a zs.length (belF zs n S).2 := by
  obtain ⟨b0, b1⟩ := byteF_bd zs S
  have HV : Hid (belF zs n S = ((byteF zs S).1 % n, (byteF zs S).2)) := rfl
  have HC : Hid (Calls _ _ _ _ _) := byte_val g a zs B S w hc hB hcur
  clear hc hcur
  generalize (byteF zs S).1 = x at *
  generalize (byteF zs S).2 = S2 at *
  go_enter Tryz.func27, Tryz.ntmps27
  go_wp2_with (go_at_call 50; refine HC.out.mono ?_; rintro e w1 ⟨rfl, hk⟩)
  go_ret
  rw [HV.out]
  exact ⟨rfl, hk⟩
theorem once_val (g : Nat) (a : Option Addr) (zs : List Int) (B : Nat) (n : Int) (S : Nat × Int) (w : World) (hc : CodeV w B a zs) (hB : B ≤ g) (hcur : CurV w g a zs.length S) (h1 : 1 ≤ n) (h2 : n ≤ 256) :
    Calls Tryz.prog 48 #[.pointer (some ⟨g, 0, none⟩), .int .i64 n] w fun e w' => e = .returned (.bool ((belF zs n S).1 == 0)) ∧ CurTo w w' g a zs.length (belF zs n S).2 := by
  have HC : Hid (Calls _ _ _ _ _) := below_val g a zs B n S w hc hB hcur h1 h2
  clear hc hcur
  go_enter Tryz.func48, Tryz.ntmps48
  go_wp2_with (go_at_call 27; refine HC.out.mono ?_; rintro e w1 ⟨rfl, hk⟩)
  go_ret
  exact ⟨rfl, hk⟩
end Go.Proofs.YtnlbigjfnjcldaaGreat

namespace Go.Proofs.YtnlbigjfnjcldaaGreat
open Go.RowKit
set_option linter.unusedVariables false

theorem infoB : (Tryz.prog.info? 5).map (fun i => (i.zero, i.size, i.bytes)) = some (some (.int .u8 0), 1, 1) := by kernel_rfl
theorem convD {w : World} {B n : Nat} {v : Value} {zs : List Int} (h : w.ownsRow B 5 1 v n (zs.map (Value.int .u8))) :
    (convert 22 9 v).run Tryz.prog w = .ok (.string (strOfNums zs)) w := by
  have hl := h.1
  simp at hl
  rcases h.2 with ⟨rfl, rfl⟩ | ⟨g, cap, cur, rfl, _, hg, hn, _, hsz, htake⟩
  · rw [run_convert_bytes_nil w 22 5 Tryz.underlying22 Tryz.underlying5 0 0 9 Tryz.underlying9]
    have : zs = [] := List.eq_nil_of_length_eq_zero hl
    subst this; rfl
  · refine run_convert_bytes_arg w 22 5 Tryz.underlying22 Tryz.underlying5 g 0 n cap zs hl (fun i hi => ?_) 9 Tryz.underlying9
    rw [Nat.zero_add, cell_of_row w g i cur 5 (0, 0) hg]
    have hi' : i < zs.length := by omega
    have e1 : (cur.toList.take (n * 1))[i]? = (zs.map (Value.int .u8))[i]? := by rw [htake]
    rw [List.getElem?_take, if_pos (by omega)] at e1
    simp [List.getElem?_eq_getElem hi'] at e1 ⊢
    exact e1

/-- What a round that appends leaves: the cursor, the row, and all that was there but the cursor. -/
theorem cur_append {w wr w1 w2 : World} {g : Nat} {a : Option Addr} {len e n m : Nat} {v v' : Value} {xs ys : List Value} {o : Obj}
    (hgr : w.grownBy wr (some g)) (hown : wr.ownsRow w.heap.size e 1 v n xs) (hgw : g < w.heap.size) (hk : CurKept wr w1 g a len)
    (hgrow : (w1.alloc o).grownBy w2 v.ownBlock) : CurAt w2 g a len ∧ w.grownBy w2 (some g) := by
  have hne : some g ≠ v.ownBlock := fun h => by have := (hown.lt g h.symm).1; omega
  refine ⟨(hk.1.kept (World.grownBy_alloc w1 o none) (by simp)).kept hgrow hne, ?_⟩
  refine ((hgr.trans hk.2).trans (World.grownBy_alloc w1 o (some g))).andThen hgrow (fun j hj => .inl (hown.lt j hj).1)
theorem own_cur {w wr w1 : World} {g : Nat} {a : Option Addr} {len e n : Nat} {v : Value} {xs : List Value}
    (hown : wr.ownsRow w.heap.size e 1 v n xs) (hgw : g < w.heap.size) (hk : CurKept wr w1 g a len) : w1.ownsRow w.heap.size e 1 v n xs :=
  hown.kept hk.2 (.inr fun h => by have := (hown.lt g h).1; omega)
end Go.Proofs.YtnlbigjfnjcldaaGreat

namespace Go.Proofs.YtnlbigjfnjcldaaGreat
open Go.RowKit
set_option linter.unusedVariables false

theorem grown_setP (w : World) (g j : Nat) (v : Value) : w.grownBy (w.setCell ⟨g, j, none⟩ v) (some g) :=
  ⟨rfl, rfl, rfl, by simp, fun k hk hne => Below.heap_setCell w ⟨g, j, none⟩ v k (fun e => hne (by rw [e]))⟩
theorem CurTo.trans {w w1 w2 : World} {g : Nat} {a : Option Addr} {len : Nat} {S S' : Nat × Int} (h : CurTo w w1 g a len S) (k : CurTo w1 w2 g a len S') : CurTo w w2 g a len S' := ⟨k.1, h.2.trans k.2⟩
theorem CurTo.kept {w w1 w2 : World} {g : Nat} {a : Option Addr} {len : Nat} {S : Nat × Int} (h : CurTo w w1 g a len S) (k : Below w1.heap.size w1 w2) : CurTo w w2 g a len S := ⟨h.1.kept (grown_of_below k none) (by simp), h.2.trans (grown_of_below k _)⟩

theorem fill_cur {w w5 : World} {g len : Nat} {a : Option Addr} {S : Nat × Int} {t : TypeId} {z0 z1 z2 z3 : Value} (hk : CurV w5 g a len S) (hg : w.grownBy w5 (some g)) (hz : Blk w5 w.heap.size #[z0, z1, z2, z3] t) (hl : g < w.heap.size) (v0 v1 v2 v3 : Value) :
    Blk ((((w5.setCell ⟨w.heap.size, 0, none⟩ v0).setCell ⟨w.heap.size, 1, none⟩ v1).setCell ⟨w.heap.size, 2, none⟩ v2).setCell ⟨w.heap.size, 3, none⟩ v3) w.heap.size #[v0, v1, v2, v3] t ∧ CurTo w ((((w5.setCell ⟨w.heap.size, 0, none⟩ v0).setCell ⟨w.heap.size, 1, none⟩ v1).setCell ⟨w.heap.size, 2, none⟩ v2).setCell ⟨w.heap.size, 3, none⟩ v3) g a len S := by
  have ne : some g ≠ some w.heap.size := by intro e; cases e; omega
  have st : ∀ k, some w.heap.size = some k → w.heap.size ≤ k ∨ some g = some k := fun k hk => by cases hk; exact .inl (Nat.le_refl _)
  exact ⟨(((hz.set 0 v0 (by simp)).set 1 v1 (by simp)).set 2 v2 (by simp)).set 3 v3 (by simp),
    (((hk.kept (grown_setP _ _ _ _) ne).kept (grown_setP _ _ _ _) ne).kept (grown_setP _ _ _ _) ne).kept (grown_setP _ _ _ _) ne,
    (((hg.andThen (grown_setP _ _ _ _) st).andThen (grown_setP _ _ _ _) st).andThen (grown_setP _ _ _ _) st).andThen (grown_setP _ _ _ _) st⟩
theorem set_cur {w w4 : World} {g len gv : Nat} {a : Option Addr} {S : Nat × Int} {t : TypeId} {zs : Array Value} (hk : CurV w4 g a len S) (hg : w.grownBy w4 (some g)) (hz : Blk w4 w.heap.size zs t) (h1 : w.heap.size < gv) (h2 : g < gv) (j : Nat) (v : Value) :
    CurV (w4.setCell ⟨gv, j, none⟩ v) g a len S ∧ w.grownBy (w4.setCell ⟨gv, j, none⟩ v) (some g) ∧ Blk (w4.setCell ⟨gv, j, none⟩ v) w.heap.size zs t :=
  ⟨hk.kept (grown_setP _ _ _ _) (by intro e; cases e; omega), hg.andThen (grown_setP _ _ _ _) (fun k hk => by cases hk; exact .inl (by omega)), hz.other _ _ (by show w.heap.size ≠ gv; omega)⟩
/-- A drawn par: its numbers. -/
def piQ (zs : List Int) (S : Nat × Int) : Int := (belF zs 41 S).1
def piC (zs : List Int) (S : Nat × Int) : Bool := !((belF zs 4 (belF zs 41 S).2).1 == 0)
def piT (zs : List Int) (S : Nat × Int) : Int := (belF zs 3 (belF zs 4 (belF zs 41 S).2).2).1
def piE (zs : List Int) (S : Nat × Int) : Nat × Int := (belF zs 3 (belF zs 4 (belF zs 41 S).2).2).2
theorem pi_ok (zs : List Int) (S : Nat × Int) : parB (piQ zs S) (piT zs S == 0) (piT zs S == 1) = true := by
  obtain ⟨b0, b1⟩ := belF_bd zs 41 S (by omega)
  have h : (piT zs S == 0 && piT zs S == 1) = false := by
    by_cases h0 : piT zs S = 0
    · simp [h0]
    · simp [h0]
  unfold parB
  rw [h]
  unfold piQ
  simp; omega

set_option maxHeartbeats 1600000 in
theorem parRight_val (g : Nat) (a : Option Addr) (zs : List Int) (B : Nat) (S : Nat × Int) (w : World) (hc : CodeV w B a zs) (hB : B ≤ g) (hcur : CurV w g a zs.length S) :
    Calls Tryz.prog 47 #[.pointer (some ⟨g, 0, none⟩)] w fun e w' => e = .returned (.agg #[.int .i64 (piQ zs S), .bool (piT zs S == 0), .bool (piT zs S == 1), .bool (piC zs S)]) ∧ CurTo w w' g a zs.length (piE zs S) := by
  have hgw := hcur.lt
  obtain ⟨t0, t1⟩ : 0 ≤ piT zs S ∧ piT zs S < 3 := belF_bd zs 3 _ (by omega)
  have CB : Hid (∀ w', CodeV w' B a zs → CurV w' g a zs.length S → Calls Tryz.prog 27 #[.pointer (some ⟨g, 0, none⟩), .int .i64 41] w' fun e w'' => e = .returned (.int .i64 (piQ zs S)) ∧ CurTo w' w'' g a zs.length (belF zs 41 S).2) := fun w' h1 h2 => below_val g a zs B 41 S w' h1 hB h2 (by omega) (by omega)
  have CO : Hid (∀ w', CodeV w' B a zs → CurV w' g a zs.length (belF zs 41 S).2 → Calls Tryz.prog 48 #[.pointer (some ⟨g, 0, none⟩), .int .i64 4] w' fun e w'' => e = .returned (.bool ((belF zs 4 (belF zs 41 S).2).1 == 0)) ∧ CurTo w' w'' g a zs.length (belF zs 4 (belF zs 41 S).2).2) := fun w' h1 h2 => once_val g a zs B 4 _ w' h1 hB h2 (by omega) (by omega)
  have CT : Hid (∀ w', CodeV w' B a zs → CurV w' g a zs.length (belF zs 4 (belF zs 41 S).2).2 → Calls Tryz.prog 27 #[.pointer (some ⟨g, 0, none⟩), .int .i64 3] w' fun e w'' => e = .returned (.int .i64 (piT zs S)) ∧ CurTo w' w'' g a zs.length (piE zs S)) := fun w' h1 h2 => below_val g a zs B 3 _ w' h1 hB h2 (by omega) (by omega)
  have HPC : Hid (piC zs S = !((belF zs 4 (belF zs 41 S).2).1 == 0)) := rfl
  have HC : Hid (CodeV w B a zs) := hc
  clear hc
  generalize piC zs S = pc at *
  generalize piE zs S = SE at *
  generalize piT zs S = tt at *
  generalize piQ zs S = q at *
  generalize (belF zs 4 (belF zs 41 S).2).2 = S2 at *
  generalize ((belF zs 4 (belF zs 41 S).2).1 == 0) = o at *
  generalize (belF zs 41 S).2 = S1 at *
  have HG : Hid (∀ w', w.grownBy w' (some g) → CodeV w' B a zs) := fun w' h => HC.out.below (below_of_grown h (by omega) (fun k hk => by cases hk; exact hB))
  have Z0 := Blk.new w #[.int .i64 0, .bool false, .bool false, .bool false] 73
  have g0 := World.grownBy_alloc w (.cells #[.int .i64 0, .bool false, .bool false, .bool false] 73) (some g)
  have k0 := hcur.kept (World.grownBy_alloc w (.cells #[.int .i64 0, .bool false, .bool false, .bool false] 73) none) (by simp)
  have gne : w.heap.size ≠ g := by omega
  clear hcur
  go_enter Tryz.func47, Tryz.ntmps47
  go_wp2_with fail
  refine (CB.out _ (HG.out _ g0) k0).mono ?_
  rintro e w1 ⟨rfl, hk⟩
  have Z1 := Z0.grew hk.2 (by intro e; cases e; exact gne rfl)
  have g1 := g0.trans hk.2
  have k1 := hk.1
  clear Z0 g0 k0 hk
  go_wp2_with fail
  refine (CO.out w1 (HG.out _ g1) k1).mono ?_
  rintro e w2 ⟨rfl, hk⟩
  have Z2 := Z1.grew hk.2 (by intro e; cases e; exact gne rfl)
  have g2 := g1.trans hk.2
  have k2 := hk.1
  clear Z1 g1 k1 hk
  go_wp2_with fail
  rw [← HPC.out]
  have V3 := Blk.new w2 #[.int .i64 q, .bool false, .bool false, .bool pc] 73
  have c23 := (Below.refl w2.heap.size w2).alloc (Nat.le_refl _) (.cells #[.int .i64 q, .bool false, .bool false, .bool pc] 73)
  have Z3 := Z2.below c23 Z2.lt
  have g3 := g2.trans (grown_of_below c23 (some g))
  have k3 := k2.kept (grown_of_below c23 none) (by simp)
  have zl : w.heap.size < w2.heap.size := Z2.lt
  have gl : g < w2.heap.size := k2.lt
  clear Z2 g2 k2 c23
  generalize w2.alloc _ = w3 at *
  generalize w2.heap.size = gv at *
  refine (CT.out w3 (HG.out _ g3) k3).mono ?_
  rintro e w4 ⟨rfl, hk⟩
  have Z4 := Z3.grew hk.2 (by intro e; cases e; exact gne rfl)
  have V4 := V3.grew hk.2 (by intro e; cases e; omega)
  have g4 := g3.trans hk.2
  have k4 := hk.1
  clear Z3 V3 g3 k3 hk
  obtain ⟨⟨z0, z1, z2, z3⟩, q0, q1, q2, q3⟩ := Z4.four
  obtain ⟨⟨x0, x1, x2, x3⟩, p0, p1, p2, p3⟩ := V4.four
  have gvl := V4.lt
  have HK : Hid (CurV w4 g a zs.length SE ∧ w.grownBy w4 (some g)) := ⟨k4, g4⟩
  have HZ : Hid (Blk w4 w.heap.size #[.int .i64 0, .bool false, .bool false, .bool false] 73) := Z4
  clear Z4 V4 k4 g4
  rcases (show tt = 0 ∨ tt = 1 ∨ tt = 2 by omega) with rfl | rfl | rfl
  · have F0 : Hid _ := set_cur HK.out.1 HK.out.2 HZ.out zl gl 1 (.bool true)
    have F1 : Hid _ := fill_cur F0.out.1 F0.out.2.1 F0.out.2.2 hgw (.int .i64 q) (.bool true) (.bool false) (.bool pc)
    go_wp2
    (try simp only [Exit.inBlock, Exit.then])
    refine bodyPost_ret (results_cell_row rfl _ _ w.heap.size 73 _ (0, 0) _ rfl F1.out.1 Tryz.underlying73 rfl (by kernel_rfl)) rfl ?_
    exact ⟨rfl, F1.out.2⟩
  · have F0 : Hid _ := set_cur HK.out.1 HK.out.2 HZ.out zl gl 2 (.bool true)
    have F1 : Hid _ := fill_cur F0.out.1 F0.out.2.1 F0.out.2.2 hgw (.int .i64 q) (.bool false) (.bool true) (.bool pc)
    go_wp2
    (try simp only [Exit.inBlock, Exit.then])
    refine bodyPost_ret (results_cell_row rfl _ _ w.heap.size 73 _ (0, 0) _ rfl F1.out.1 Tryz.underlying73 rfl (by kernel_rfl)) rfl ?_
    exact ⟨rfl, F1.out.2⟩
  · have F1 : Hid _ := fill_cur HK.out.1 HK.out.2 HZ.out hgw (.int .i64 q) (.bool false) (.bool false) (.bool pc)
    go_wp2
    (try simp only [Exit.inBlock, Exit.then])
    refine bodyPost_ret (results_cell_row rfl _ _ w.heap.size 73 _ (0, 0) _ rfl F1.out.1 Tryz.underlying73 rfl (by kernel_rfl)) rfl ?_
    exact ⟨rfl, F1.out.2⟩
end Go.Proofs.YtnlbigjfnjcldaaGreat

namespace Go.Proofs.YtnlbigjfnjcldaaGreat
open Go.ChangeShapes Go.WideShapes Go.ChangeAt Go.RowKit
set_option linter.unusedVariables false

set_option maxHeartbeats 400000 in
theorem big_any (a : Option Addr) (len cap : Nat) (w : World) (h : (len : Int) ≤ 1048576) :
    Calls Tryz.prog 7 #[.slice a len cap] w fun e w' => e = .returned (.bool false) ∧ w' = w := by
  go_enter Tryz.func7, Tryz.ntmps7
  go_wp2
  go_ret
  exact ⟨by simp; omega, rfl⟩
set_option maxHeartbeats 400000 in
theorem big_yes (a : Option Addr) (len cap : Nat) (w : World) (h : 1048576 < (len : Int)) :
    Calls Tryz.prog 7 #[.slice a len cap] w fun e w' => e = .returned (.bool true) ∧ w' = w := by
  go_enter Tryz.func7, Tryz.ntmps7
  go_wp2
  go_ret
  exact ⟨rfl, rfl⟩
theorem cellI {w : World} {B g c : Nat} {l : List Int} (h : w.ownsRow B 3 1 (.slice (some ⟨g, 0, none⟩) 12 c) 12 (l.map (Value.int .i64))) (hl : l.length = 12) (j : Nat) (hj : j < 12) : w.cell? ⟨g, j, none⟩ = some (.int .i64 (l.getD j 0)) := by
  rw [h.cellAt j (by omega)]
  simp [List.getElem?_eq_getElem (show j < l.length by omega)]
theorem getD_in {l : List Int} {n j : Nat} (hl : l.length = n) (hj : j < n) (h : ∀ x ∈ l, 0 ≤ x ∧ x < 10000) : 0 ≤ l.getD j 0 ∧ l.getD j 0 < 10000 := by
  rw [List.getD_eq_getElem?_getD, List.getElem?_eq_getElem (by omega)]
  exact h _ (List.getElem_mem _)
/-- A code that came in, of no more bytes than the laws look at. -/
def CodeIn (w : World) (a : Option Addr) (len cap : Nat) : Prop := (len : Int) ≤ 1048576 ∧ (a = none → len = 0 ∧ cap = 0) ∧ CodeRow w w.heap.size a len
theorem codeRow_of {W : World} {x : Addr} {len cap : Nat} {zs : List Int} (hl : len ≤ cap) (hz : zs.length = cap) (hcell : ∀ i, i < zs.length → W.cell? (x.add i) = some (.int .u8 (zs.getD i 0))) (hwz : ∀ n ∈ zs, (Lit.int .u8 n).wf = true) :
    1048576 < (len : Int) ∨ CodeIn W (some x) len cap := by
  by_cases hb : 1048576 < (len : Int)
  · exact .inl hb
  refine .inr ⟨by omega, (fun h => by cases h), by omega, ?_⟩
  by_cases h0 : len = 0
  · exact .inl h0
  obtain ⟨b, off, spot⟩ := x
  have hc := hcell 0 (by omega)
  have hspot : spot = none := by simpa [Addr.add] using World.cell?_spot hc
  subst hspot
  have hc0 : W.cell? ⟨b, off, none⟩ = some (.int .u8 (zs.getD 0 0)) := by simpa [Addr.add] using hc
  refine .inr ⟨b, off, rfl, World.block_lt_of_cell? W _ hc0, fun j hj => ?_⟩
  have hj' : j < zs.length := by omega
  have hm : zs.getD j 0 ∈ zs := by rw [List.getD_eq_getElem?_getD, List.getElem?_eq_getElem hj']; exact List.getElem_mem _
  have hbd := bounds_u8 (hwz _ hm)
  have hadd : (⟨b, off, none⟩ : Addr).add j = ⟨b, off + j, none⟩ := by unfold Addr.add; split <;> simp_all
  exact ⟨zs.getD j 0, hbd.1, hbd.2, by rw [← hadd]; exact hcell j hj'⟩
end Go.Proofs.YtnlbigjfnjcldaaGreat

namespace Go.Proofs.YtnlbigjfnjcldaaGreat
open Go.RowKit
set_option linter.unusedVariables false

theorem codeV_of {w : World} {B : Nat} {a : Option Addr} {len : Nat} (h : CodeRow w B a len) : ∃ zs : List Int, zs.length = len ∧ CodeV w B a zs := by
  obtain ⟨h1, h2⟩ := h
  rcases h2 with h0 | ⟨b, off, rfl, hb, hc⟩
  · refine ⟨[], by rw [h0]; rfl, by simp, fun j => by simp, .inl rfl⟩
  · have hx : ∀ j : Nat, ∃ z : Int, 0 ≤ z ∧ z ≤ 255 ∧ (j < len → w.cell? ⟨b, off + j, none⟩ = some (.int .u8 z)) := fun j => by
      by_cases hj : j < len
      · obtain ⟨z, z0, z1, z2⟩ := hc j hj
        exact ⟨z, z0, z1, fun _ => z2⟩
      · exact ⟨0, by omega, by omega, fun h => absurd h hj⟩
    have hl : ((List.range len).map (fun j => Classical.choose (hx j))).length = len := by simp
    have hg : ∀ j, j < len → ((List.range len).map (fun j => Classical.choose (hx j))).getD j 0 = Classical.choose (hx j) := fun j hj => by
      rw [List.getD_eq_getElem?_getD, List.getElem?_eq_getElem (by rw [hl]; exact hj)]; simp
    refine ⟨(List.range len).map (fun j => Classical.choose (hx j)), hl, by rw [hl]; exact h1, fun j => ?_, .inr ⟨b, off, rfl, hb, fun j hj => ?_⟩⟩
    · by_cases hj : j < len
      · rw [hg j hj]; exact ⟨(Classical.choose_spec (hx j)).1, (Classical.choose_spec (hx j)).2.1⟩
      · rw [List.getD_eq_getElem?_getD, List.getElem?_eq_none (by rw [hl]; omega)]; simp
    · rw [hl] at hj
      rw [hg j hj]; exact (Classical.choose_spec (hx j)).2.2 hj
end Go.Proofs.YtnlbigjfnjcldaaGreat

namespace Go.Proofs.YtnlbigjfnjcldaaGreat
open Go.RowKit
set_option linter.unusedVariables false

set_option maxHeartbeats 1600000 in
theorem l14Cond_any (g : Nat) (a : Option Addr) (zs : List Int) (B : Nat) (S : Nat × Int) (w : World) (hc : CodeV w B a zs) (hB : B ≤ g) (hcur : CurV w g a zs.length S) :
    Calls Tryz.prog 25 #[.pointer (some ⟨g, 0, none⟩)] w fun e w' => (∃ k q gg x, e = .returned (conV k q gg x) ∧ parB q gg x = true) ∧ w.grownBy w' (some g) ∧ ∃ S', CurV w' g a zs.length S' := by
  have hgw := hcur.lt
  have CP : Hid (∀ w', CodeV w' B a zs → CurV w' g a zs.length S → Calls Tryz.prog 47 #[.pointer (some ⟨g, 0, none⟩)] w' fun e w'' => e = .returned (.agg #[.int .i64 (piQ zs S), .bool (piT zs S == 0), .bool (piT zs S == 1), .bool (piC zs S)]) ∧ CurTo w' w'' g a zs.length (piE zs S)) := fun w' h1 h2 => parRight_val g a zs B S w' h1 hB h2
  have CO : Hid (∀ w', CodeV w' B a zs → CurV w' g a zs.length (piE zs S) → Calls Tryz.prog 48 #[.pointer (some ⟨g, 0, none⟩), .int .i64 2] w' fun e w'' => e = .returned (.bool ((belF zs 2 (piE zs S)).1 == 0)) ∧ CurTo w' w'' g a zs.length (belF zs 2 (piE zs S)).2) := fun w' h1 h2 => once_val g a zs B 2 _ w' h1 hB h2 (by omega) (by omega)
  have HP : Hid (parB (piQ zs S) (piT zs S == 0) (piT zs S == 1) = true) := pi_ok zs S
  have HC : Hid (CodeV w B a zs) := hc
  clear hc
  generalize ((belF zs 2 (piE zs S)).1 == 0) = o at *
  generalize (belF zs 2 (piE zs S)).2 = S2 at *
  generalize piE zs S = SE at *
  generalize piQ zs S = q at *
  generalize (piT zs S == 0) = pg at *
  generalize (piT zs S == 1) = px at *
  generalize piC zs S = pc at *
  have HG : Hid (∀ w', w.grownBy w' (some g) → CodeV w' B a zs) := fun w' h => HC.out.below (below_of_grown h (by omega) (fun k hk => by cases hk; exact hB))
  have Z0 := Blk.new w #[.bool false, .int .i64 0, .bool false, .bool false] 26
  have g0 := World.grownBy_alloc w (.cells #[.bool false, .int .i64 0, .bool false, .bool false] 26) (some g)
  have k0 := hcur.kept (World.grownBy_alloc w (.cells #[.bool false, .int .i64 0, .bool false, .bool false] 26) none) (by simp)
  have gne : w.heap.size ≠ g := by omega
  clear hcur
  go_enter Tryz.func25, Tryz.ntmps25
  go_wp2_with fail
  refine (CP.out _ (HG.out _ g0) k0).mono ?_
  rintro e w1 ⟨rfl, hk⟩
  have Z1 := Z0.grew hk.2 (by intro e; cases e; exact gne rfl)
  have g1 := g0.trans hk.2
  have k1 := hk.1
  clear Z0 g0 k0 hk
  go_wp2_with fail
  generalize hV : World.alloc w1 _ = V
  have P2 : Blk V w1.heap.size #[.int .i64 q, .bool pg, .bool px, .bool pc] 73 := by rw [← hV]; exact Blk.new w1 _ _
  have c12 : Below w1.heap.size w1 V := by rw [← hV]; exact (Below.refl _ _).alloc (Nat.le_refl _) _
  clear hV
  have Z2 := Z1.below c12 Z1.lt
  have g2 := g1.trans (grown_of_below c12 (some g))
  have k2 := k1.kept (grown_of_below c12 none) (by simp)
  have zl : w.heap.size < w1.heap.size := Z1.lt
  have pne : w1.heap.size ≠ g := by omega
  have zpne : w.heap.size ≠ w1.heap.size := by omega
  generalize w1.heap.size = gp at *
  clear Z1 g1 k1 c12
  obtain ⟨⟨p0, p1, p2, p3⟩, _⟩ := P2.four
  have HK : Hid (∀ w5, V.grownBy w5 (some g) → (w5.cell? ⟨gp, 0, none⟩ = some (.int .i64 q) ∧ w5.cell? ⟨gp, 1, none⟩ = some (.bool pg) ∧ w5.cell? ⟨gp, 2, none⟩ = some (.bool px) ∧ w5.cell? ⟨gp, 3, none⟩ = some (.bool pc)) ∧ Blk w5 w.heap.size #[.bool false, .int .i64 0, .bool false, .bool false] 26) := fun w5 h => ⟨(P2.grew h (by intro e; cases e; exact pne rfl)).four.1, Z2.grew h (by intro e; cases e; exact gne rfl)⟩
  clear P2 Z2
  have gd : V.grownBy V.drew (some g) := ⟨rfl, rfl, rfl, Nat.le_refl _, fun _ _ _ => rfl⟩
  have kd : CurV V.drew g a zs.length SE := k2
  go_region_held3 (fun w' => w'.cell? ⟨gp, 0, none⟩ = some (.int .i64 q) ∧ w'.cell? ⟨gp, 1, none⟩ = some (.bool pg) ∧ w'.cell? ⟨gp, 2, none⟩ = some (.bool px) ∧ w'.cell? ⟨gp, 3, none⟩ = some (.bool pc))
    (first | (with_reducible exact hS) | go_keep)
    (first
      | (go_at_call 48; refine (CO.out _ (HG.out _ (g2.trans gd)) kd).mono ?_; rintro e w5 ⟨rfl, hk⟩; obtain ⟨hS, b5⟩ := HK.out w5 (gd.trans hk.2); have g5 := (g2.trans gd).trans hk.2; have k5 := hk.1; obtain ⟨⟨y0, y1, y2, y3⟩, n0, n1, n2, n3⟩ := b5.four; clear hk))
  all_goals
    have F : Hid _ := fill_cur k5 g5 b5 hgw (.bool o) (.int .i64 q) (.bool pg) (.bool px)
    clear k5 g5 b5 y0 y1 y2 y3 n0 n1 n2 n3
    go_wp2
    (try simp only [Exit.inBlock, Exit.then])
    refine bodyPost_ret (results_cell_row rfl _ _ w.heap.size 26 _ (0, 0) _ rfl F.out.1 Tryz.underlying26 rfl (by kernel_rfl)) rfl ?_
    exact ⟨⟨o, q, pg, px, rfl, HP.out⟩, F.out.2.2, _, F.out.2.1⟩

end Go.Proofs.YtnlbigjfnjcldaaGreat

namespace Go.Proofs.YtnlbigjfnjcldaaGreat
open Go.RowKit
set_option linter.unusedVariables false

set_option maxHeartbeats 400000 in
theorem onceL (g : Nat) (a : Option Addr) (len B : Nat) (n : Int) (w : World) (hc : CodeRow w B a len) (hB : B ≤ g) (hcur : CurAt w g a len) (h1 : 1 ≤ n) (h2 : n ≤ 4294967296) :
    Calls Tryz.prog 48 #[.pointer (some ⟨g, 0, none⟩), .int .i64 n] w fun e w' => ∃ b : Bool, e = .returned (.bool b) ∧ CurKept w w' g a len := by
  go_enter Tryz.func48, Tryz.ntmps48
  go_wp2_with (go_at_call 27; refine (below_any g a len B n _ hc hB hcur h1 h2).mono ?_; rintro e w1 ⟨x, rfl, hx0, hx1, hk⟩)
  go_ret
  exact ⟨_, rfl, hk⟩

def putF (g : Nat → Int) (i : Nat) (x : Int) : Nat → Int := fun j => if j = i then x else g j
theorem put_set (g : Nat → Int) (n i : Nat) (x : Int) : ((listF n g).map (Value.int .i64)).set i (.int .i64 x) = (listF n (putF g i x)).map (Value.int .i64) := by
  unfold listF
  rw [List.map_map, List.map_map]
  have e : Value.int .i64 x = (Value.int .i64 ∘ putF g i x) i := by simp [putF]
  rw [e]
  refine int_range_set n i _ _ (fun j hj => ?_)
  simp [Function.comp, putF, hj]
theorem zero_made (n : Nat) : (madeCells (Value.int .i64 0).cells (n * 1)).toList = (listF n (fun _ => 0)).map (Value.int .i64) := by
  rw [int_made]
  unfold listF
  rw [List.map_map]
  rfl
/-- What lies in memory while levels are drawn into a row of its own. -/
structure Drawn (w wr : World) (g n : Nat) (a : Option Addr) (len : Nat) (f : Nat → Int) : Prop where
  bd : ∀ j, -5000 ≤ f j ∧ f j ≤ 5000
  own : wr.ownsRow w.heap.size 3 1 (.slice (some ⟨w.heap.size, 0, none⟩) n n) n ((listF n f).map (Value.int .i64))
  cur : CurAt wr g a len
  grew : w.grownBy wr (some g)
theorem Drawn.size {w wr : World} {g n : Nat} {a : Option Addr} {len : Nat} {f : Nat → Int} (h : Drawn w wr g n a len f) : w.heap.size < wr.heap.size := by
  have := (h.own.lt w.heap.size rfl).2
  omega
theorem Drawn.step {w wr w1 : World} {g n : Nat} {a : Option Addr} {len : Nat} {f : Nat → Int} (h : Drawn w wr g n a len f) (hg : g < w.heap.size) (hk : CurKept wr w1 g a len) : Drawn w w1 g n a len f :=
  ⟨h.bd, own_cur h.own hg hk, hk.1, h.grew.trans hk.2⟩
theorem Drawn.code {w wr : World} {g n B : Nat} {a : Option Addr} {len : Nat} {f : Nat → Int} (h : Drawn w wr g n a len f) (hc : CodeRow w B a len) (hB : B ≤ g) (hg : g < w.heap.size) : CodeRow wr B a len :=
  hc.below (below_of_grown h.grew (by omega) (fun k hk => by cases hk; exact hB))
theorem Drawn.put {w wr : World} {g n y : Nat} {a : Option Addr} {len : Nat} {f : Nat → Int} {x : Int} (h : Drawn w wr g n a len f) (hg : g < w.heap.size) (hy : y < n) (hx : -5000 ≤ x ∧ x ≤ 5000) :
    (wr.cell? ⟨w.heap.size, y, none⟩ = some (.int .i64 (f y)) ∧ wr.frozen? ⟨w.heap.size, y, none⟩ = false) ∧ Drawn w (wr.setCell ⟨w.heap.size, y, none⟩ (.int .i64 x)) g n a len (putF f y x) := by
  have hc := h.own.cellAt y (by omega)
  have hst := h.own.stored y (.int .i64 x)
  rw [put_set] at hst
  have e : ((listF n f).map (Value.int .i64))[y]? = some (.int .i64 (f y)) := by simp [listF, hy]
  refine ⟨⟨hc.trans e, h.own.frozenAt y⟩, ⟨fun j => ?_, hst.1, h.cur.kept hst.2 (fun e => by have e' := Option.some.inj e; omega), ?_⟩⟩
  · unfold putF
    split
    · exact hx
    · exact h.bd j
  · refine ⟨hst.2.os.trans h.grew.os, hst.2.tape.trans h.grew.tape, hst.2.output.trans h.grew.output, Nat.le_trans h.grew.size hst.2.size, fun k hk hne => ?_⟩
    exact (hst.2.block k (Nat.lt_of_lt_of_le hk h.grew.size) (fun e => by have e' := Option.some.inj e; omega)).trans (h.grew.block k hk hne)
end Go.Proofs.YtnlbigjfnjcldaaGreat

namespace Go.Proofs.YtnlbigjfnjcldaaGreat
open Go.RowKit
set_option linter.unusedVariables false

set_option maxHeartbeats 4000000 in
theorem levels_any (g : Nat) (a : Option Addr) (len B n : Nat) (w : World) (hc : CodeRow w B a len) (hB : B ≤ g) (hcur : CurAt w g a len) (hn0 : 16 ≤ n) (hn1 : n ≤ 64) :
    Calls Tryz.prog 63 #[.pointer (some ⟨g, 0, none⟩), .int .i64 (n : Int)] w fun e w' => e = .returned (.slice (some ⟨w.heap.size, 0, none⟩) n n) ∧ ∃ f, Drawn w w' g n a len f := by
  obtain ⟨i0, hi0, hz0, hz1, hz2⟩ := info_parts infoI
  have hgw := hcur.lt
  have n0 : (16 : Int) ≤ (n : Int) := by omega
  have n1 : (n : Int) ≤ 64 := by omega
  have hnp : (0 : Int) < (n : Int) := by omega
  have HG : Hid (g < w.heap.size) := hgw
  go_enter Tryz.func63, Tryz.ntmps63
  go_wp2_with (at_make; refine wpList_make_full _ (by rfl) _ _ 32 (by rfl) w.heap.size 3 i0 (.int .i64 0) 1 Tryz.underlying32 hi0 hz0 hz1 .i64 .i64 _ _ n (by rfl) (by rfl) (by rfl) (by rfl) (by rw [hz2]; omega) (by unfold maxLen; omega) (Nat.le_refl _) ?_; intro w1 hown0 hgrow0)
  rw [zero_made] at hown0
  have D0 : Drawn w w1 g n a len (fun _ => 0) := ⟨fun _ => by omega, hown0, hcur.kept hgrow0 (by simp), ⟨hgrow0.os, hgrow0.tape, hgrow0.output, hgrow0.size, fun k hk _ => hgrow0.block k hk (by simp)⟩⟩
  clear hown0 hgrow0
  go_loopw [6] (fun i wr => ∃ (k : Nat) (f : Nat → Int), k ≤ 7 ∧ i = .int .i64 (k : Int) ∧ Drawn w wr g n a len f) (fun i _ => 7 - (intOf i).toNat)
  case atStart => exact ⟨0, _, by omega, rfl, D0⟩
  case round =>
    obtain ⟨k, f, hk, rfl, hD⟩ := hrel
    clear D0
    have k0 : (0 : Int) ≤ (k : Int) := by omega
    have k7 : (k : Int) ≤ 7 := by omega
    have hsz := hD.size
    have hcr := hD.code hc hB hgw
    go_wp2_with fail
    refine (below_any g a len B 7 _ hcr hB hD.cur (by omega) (by omega)).mono ?_
    rintro e w2 ⟨x, rfl, hx0, hx1, hkp⟩
    have hD2 := hD.step hgw hkp
    clear hD hsz hcr hkp
    by_cases hlt : (k : Int) < x
    · have HD2 : Hid (Drawn w w2 g n a len f) := hD2
      have HC2 : Hid (CodeRow w2 B a len) := hD2.code hc hB hgw
      have HK : Hid (CurAt w2 g a len) := hD2.cur
      clear hD2
      go_wp2_with fail
      refine (below_any g a len B (n : Int) _ HC2.out hB HK.out (by omega) (by omega)).mono ?_
      rintro e w3 ⟨y, rfl, hy0, hy1, hkp⟩
      have hD3 := HD2.out.step hgw hkp
      clear hkp HD2 HC2 HK
      go_wp2_with fail
      refine (onceL g a len B 2 _ (hD3.code hc hB hgw) hB hD3.cur (by omega) (by omega)).mono ?_
      rintro e w4 ⟨b, rfl, hkp⟩
      have hD4 := hD3.step hgw hkp
      clear hkp hD3
      obtain ⟨y, rfl⟩ := Int.eq_ofNat_of_zero_le hy0
      go_upto_if 24 with fail
      go_cut [7] from 25 to 26 (fun v wc => ∃ z : Nat, v = .int .i64 (z : Int) ∧ (z : Int) < (n : Int) ∧ Hid (wc = w4))
      case first =>
        cases b
        · go_wp2_with fail
          go_meet
          exact ⟨y, rfl, hy1, rfl⟩
        · have e5 : (y : Int) % 5 = ((y % 5 : Nat) : Int) := by omega
          go_wp2_with fail
          go_meet
          exact ⟨y % 5, by rw [e5], by omega, rfl⟩
      case rest =>
      obtain ⟨z, rfl, hz, HW⟩ := hcut
      have hD4' : Drawn w wc g n a len f := by rw [HW.out]; exact hD4
      have z0 : (0 : Int) ≤ (z : Int) := by omega
      clear hD4 HW hy0 hy1
      generalize wc = w5 at *
      go_wp2_with fail
      refine (below_any g a len B 21 _ (hD4'.code hc hB hgw) hB hD4'.cur (by omega) (by omega)).mono ?_
      rintro e w6 ⟨q, rfl, hq0, hq1, hkp⟩
      have hD6 := hD4'.step hgw hkp
      obtain ⟨⟨c6, f6⟩, hD7⟩ := hD6.put (y := z) (x := q - 10) hgw (by omega) (by omega)
      have HD7 : Hid (Drawn w (w6.setCell ⟨w.heap.size, z, none⟩ (.int .i64 (q - 10))) g n a len (putF f z (q - 10))) := hD7
      clear hkp hD4' hD6 hD7
      go_wp2_with fail
      generalize w6.setCell ⟨w.heap.size, z, none⟩ (.int .i64 (q - 10)) = w7 at *
      clear c6 f6
      refine (onceL g a len B 6 _ (HD7.out.code hc hB hgw) hB HD7.out.cur (by omega) (by omega)).mono ?_
      rintro e w8 ⟨b2, rfl, hkp⟩
      have hD8 : Hid (Drawn w w8 g n a len (putF f z (q - 10))) := HD7.out.step hgw hkp
      clear hkp HD7
      cases b2
      · go_wp2
        go_roundw
        case rel => exact ⟨k + 1, _, by omega, by go_num, hD8.out⟩
        case measure => simp [intOf]; omega
      · go_wp2_with fail
        refine (below_any g a len B 10001 _ (hD8.out.code hc hB hgw) hB hD8.out.cur (by omega) (by omega)).mono ?_
        rintro e w9 ⟨r, rfl, hr0, hr1, hkp⟩
        have hD9 := hD8.out.step hgw hkp
        obtain ⟨⟨c9, f9⟩, hD10⟩ := hD9.put (y := z) (x := r - 5000) hgw (by omega) (by omega)
        have HD10 : Hid (Drawn w (w9.setCell ⟨w.heap.size, z, none⟩ (.int .i64 (r - 5000))) g n a len (putF (putF f z (q - 10)) z (r - 5000))) := hD10
        clear hkp hD8 hD9 hD10
        go_wp2
        go_roundw
        case rel => exact ⟨k + 1, _, by omega, by go_num, HD10.out⟩
        case measure => simp [intOf]; omega
    · have HD2 : Hid (Drawn w w2 g n a len f) := hD2
      clear hD2
      go_wp2
      go_ret
      exact ⟨rfl, f, HD2.out⟩

end Go.Proofs.YtnlbigjfnjcldaaGreat

namespace Go.Proofs.YtnlbigjfnjcldaaGreat
open Go.RowKit
set_option linter.unusedVariables false

set_option maxHeartbeats 800000 in
theorem signs_any (g : Nat) (a : Option Addr) (len B n : Nat) (w : World) (hc : CodeRow w B a len) (hB : B ≤ g) (hcur : CurAt w g a len) (hn : n ≤ 1000000) :
    Calls Tryz.prog 28 #[.pointer (some ⟨g, 0, none⟩), .int .i64 n] w fun e w' => ∃ l : List Int, e = .returned (.string (strOfNums l)) ∧ l.length = n ∧ (∀ x ∈ l, x = 48 ∨ x = 49) ∧ CurKept w w' g a len := by
  obtain ⟨i0, hi0, hz0, hz1, hz2⟩ := info_parts infoB
  have hgw := hcur.lt
  go_enter Tryz.func28, Tryz.ntmps28
  go_wp2
  go_loopw [5, 6] (fun v i wr => ∃ (k : Nat) (l : List Int), k ≤ n ∧ i = .int .i64 k ∧ l.length = k ∧ (∀ x ∈ l, x = 48 ∨ x = 49) ∧ wr.ownsRow w.heap.size 5 1 v k (l.map (Value.int .u8)) ∧ CurAt wr g a len ∧ w.grownBy wr (some g))
    (fun _ i _ => n - (intOf i).toNat)
  case atStart => exact ⟨0, [], Nat.zero_le _, rfl, rfl, (fun x hx => by cases hx), World.ownsRow_made w #[] 0 (Nat.le_refl _) (by unfold maxLen; omega) rfl, hcur.kept (World.grownBy_alloc w _ none) (by simp), World.grownBy_alloc w _ _⟩
  case round =>
    obtain ⟨k, l, hk, rfl, hll, hls, hown, hcr, hgr⟩ := hrel
    have HL : Hid (l.length = k) := hll
    have HS : Hid (∀ x ∈ l, x = 48 ∨ x = 49) := hls
    clear hll hls
    by_cases hlt : k < n
    · have hcr' : CodeRow wr B a len := hc.below (below_of_grown hgr (by omega) (fun j hj => by cases hj; exact hB))
      have hBr : B ≤ wr.heap.size := by have := hgr.size; omega
      go_wp2_with (first
        | (go_at_call 27; refine (below_any g a len B 2 _ hcr' hB hcr (by omega) (by omega)).mono ?_; rintro e w1 ⟨x, rfl, hx0, hx1, hkp⟩; have hown' := own_cur hown hgw hkp; have hsz1 := hkp.2.size; have hsz0 := hgr.size)
        | (at_builtin; refine wpList_append_lies _ (by rfl) _ _ 22 (by rfl) w.heap.size 5 i0 (.int .u8 0) 1 1 Tryz.underlying22 hi0 hz0 hz1 hz2 rfl (by omega) u5 k _ (by rfl) (hown'.alloc _) ⟨w1.heap.size, 0, none⟩ 1 1 [.int .u8 (48 + x)] (by rfl) (by rfl) (World.news_of_block (cs := #[.int .u8 (48 + x)]) (t := 5) (fr := (0, 0)) (heap_alloc_new w1 _)) (by simp [Value.oneCell']) (by omega) (by unfold maxLen; omega) (by omega) (by simp; omega) (w1.heap.size + 1) (by simp) ?_; intro gg cp w2 hown2 hgrow hat hlt2))
      have R := cur_append (v' := u5) (ys := []) (m := 0) hgr hown hgw hkp hgrow
      have hown3 : w2.ownsRow w.heap.size 5 1 (.slice (some ⟨gg, 0, none⟩) (k + 1) cp) (k + 1) ((l ++ [48 + x]).map (Value.int .u8)) := by simpa using hown2
      clear hown2 hgrow hat hlt2 hown hown' hcr hcr' hkp
      go_roundw
      case rel => exact ⟨k + 1, l ++ [48 + x], by omega, by go_num, by have := HL.out; simp; omega, fun y hy => by
        rcases List.mem_append.1 hy with h | h
        · exact HS.out y h
        · simp at h; subst h; omega, hown3, R.1, R.2⟩
      case measure => simp [intOf]; omega
    · obtain rfl : k = n := by omega
      have hconv := convD hown
      go_wp2
      go_ret
      exact ⟨l, rfl, HL.out, HS.out, hcr, hgr⟩

set_option maxHeartbeats 800000 in
theorem drawRow_any (a : Option Addr) (len cap B : Nat) (w : World) (hc : CodeRow w B a len) (hB : B ≤ w.heap.size) :
    Calls Tryz.prog 9 #[.slice a len cap] w fun e w' => ∃ l : List Int, e = .returned (.string (strOfNums l)) ∧ l.length ≤ 60 ∧ (∀ x ∈ l, x = 48 ∨ x = 49) ∧ Below w.heap.size w w' := by
  go_enter Tryz.func9, Tryz.ntmps9
  go_wp2_with fail
  refine (new_cur a len cap B _ hc hB).mono ?_
  rintro e w1 ⟨rfl, hcur, hb1⟩
  have hc1 := hc.below (hb1.mono hB)
  go_wp2_with fail
  refine (below_any _ a len B 61 _ hc1 hB hcur (by omega) (by omega)).mono ?_
  rintro e w2 ⟨x, rfl, hx0, hx1, hk⟩
  obtain ⟨n, rfl⟩ := Int.eq_ofNat_of_zero_le hx0
  have hs1 := hb1.size
  have hc2 := hk.code hc1 hB (by omega)
  go_wp2_with fail
  refine (signs_any _ a len B n _ hc2 hB hk.1 (by omega)).mono ?_
  rintro e w3 ⟨l, rfl, hl, hs, hk3⟩
  go_wp2
  go_ret
  exact ⟨l, rfl, by omega, hs, (hb1.trans (below_of_grown hk.2 hs1 (fun j hj => by cases hj; exact Nat.le_refl _))).trans (below_of_grown hk3.2 (Nat.le_trans hs1 hk.2.size) (fun j hj => by cases hj; exact Nat.le_refl _))⟩
end Go.Proofs.YtnlbigjfnjcldaaGreat

namespace Go.Proofs.YtnlbigjfnjcldaaGreat
open Go.RowKit
set_option linter.unusedVariables false
attribute [local go_sem ↓] Go.wp_at_zero Go.wp_at_succ

set_option maxHeartbeats 800000 in
theorem sameInts_any (a1 a2 : Option Addr) (c1 c2 : Nat) (xs : List Int) (w : World) (h1 : Ints w a1 xs) (h2 : Ints w a2 xs) (hx : xs.length ≤ 2000000) :
    Calls Tryz.prog 35 #[.slice a1 xs.length c1, .slice a2 xs.length c2] w fun e w' => e = .returned (.bool true) ∧ Below w.heap.size w w' := by
  rcases h1 with rfl | ⟨b1, o1, rfl, hg1, hc1⟩
  · go_enter Tryz.func35, Tryz.ntmps35
    go_wp2
    refine wp_loop_rounds 1 ?_
    rw [rounds_succ]
    go_wp2
    go_ret
    exact ⟨rfl, Below.refl _ _⟩
  · rcases h2 with rfl | ⟨b2, o2, rfl, hg2, hc2⟩
    · go_enter Tryz.func35, Tryz.ntmps35
      go_wp2
      refine wp_loop_rounds 1 ?_
      rw [rounds_succ]
      go_wp2
      go_ret
      exact ⟨rfl, Below.refl _ _⟩
    · have H1 : Hid (∀ i, i < xs.length → w.cell? ⟨b1, o1 + i, none⟩ = some (.int .i64 (xs.getD i 0))) := hc1
      have H2 : Hid (∀ i, i < xs.length → w.cell? ⟨b2, o2 + i, none⟩ = some (.int .i64 (xs.getD i 0))) := hc2
      clear hc1 hc2
      go_enter Tryz.func35, Tryz.ntmps35
      go_wp2
      go_loopw [5] (fun i wr => ∃ k : Nat, k ≤ xs.length ∧ i = .int .i64 k ∧ Below w.heap.size w wr) (fun i _ => xs.length - (intOf i).toNat)
      case atStart => exact ⟨0, Nat.zero_le _, rfl, Below.refl _ _⟩
      case round =>
        obtain ⟨k, hk, rfl, hb⟩ := hrel
        by_cases hlt : k < xs.length
        · obtain ⟨x, hx⟩ : ∃ x, x = xs.getD k 0 := ⟨_, rfl⟩
          have d1 : wr.cell? ⟨b1, o1 + k, none⟩ = some (.int .i64 x) := by rw [hx]; exact (hb.cell (p := ⟨b1, o1 + k, none⟩) hg1).trans (H1.out k hlt)
          have d2 : wr.cell? ⟨b2, o2 + k, none⟩ = some (.int .i64 x) := by rw [hx]; exact (hb.cell (p := ⟨b2, o2 + k, none⟩) hg2).trans (H2.out k hlt)
          clear hx
          have l0 : (0 : Int) ≤ (k : Int) := by omega
          have l1 : (k : Int) < (xs.length : Int) := by omega
          go_wp2_with fail
          go_quiet (fail)
          go_wp2
          go_roundw
          case rel => exact ⟨k + 1, by omega, by go_num, below_drewN hb _⟩
          case measure => simp [intOf]; omega
        · go_wp2
          go_ret
          exact ⟨rfl, hb⟩

end Go.Proofs.YtnlbigjfnjcldaaGreat
