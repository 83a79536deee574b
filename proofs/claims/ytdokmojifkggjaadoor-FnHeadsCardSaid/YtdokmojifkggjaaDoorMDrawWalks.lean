/-
  The walks of spec.l01New, spec.l01Byte and spec.l01Below: a cursor is laid, gives bytes, and numbers below a bound; nothing else is written.
  The draws with their values: what a cursor gives is told by its code and its state alone.
  What the walks of drawn rows share: a row that a draw appends to beside its cursor.
  The walks of spec.l02Signs and spec.DrawRow: a drawn row has as many signs as are told, each 0 or 1.
-/
import Derived.Test.YtdokmojifkggjaaDoorRows
import Derived.Test.YtdokmojifkggjaaDoorDrawKit
import Derived.WalkSpells
import Derived.Deep.QuietTactic
import Derived.BigQuiet
import Derived.KernelRfl
import Derived.Maps.Range
namespace Go.Proofs.YtdokmojifkggjaaDoor
open Go.RowKit
set_option linter.unusedVariables false
set_option maxRecDepth 20000

set_option maxHeartbeats 800000 in
theorem new_any (a : Option Addr) (len cap B : Nat) (w : World) (hc : CodeRow w B a len) (hB : B ≤ w.heap.size) :
    Calls Tryd.prog 24 #[.slice a len cap] w fun e w' => e = .returned (.pointer (some ⟨w.heap.size, 0, none⟩)) ∧ ∃ h : Int, w' = w.alloc (.cells #[.slice a len cap, .int .i64 0, .int .i64 h] 81) := by
  have hl := hc.1
  have HC : Hid (CodeRow w B a len) := hc
  clear hc
  go_enter Tryd.func24, Tryd.ntmps24
  go_wp2
  go_loop [3, 4] (fun x i => ∃ k : Nat, k ≤ len ∧ i = .int .i64 k ∧ ∃ h : Int, x = .int .i64 h) (fun _ i => len - (intOf i).toNat)
  case atStart => exact ⟨0, Nat.zero_le _, rfl, _, rfl⟩
  case round =>
    obtain ⟨k, hk, rfl, h, rfl⟩ := hrel
    by_cases hlt : k < len
    · by_cases h4 : (k : Int) < 4000
      · obtain ⟨b, off, rfl, hbB, hcell⟩ : ∃ b off, a = some ⟨b, off, none⟩ ∧ b < B ∧ ∀ j, j < len → ∃ z : Int, 0 ≤ z ∧ z ≤ 255 ∧ w.cell? ⟨b, off + j, none⟩ = some (.int .u8 z) := by
          rcases HC.out.2 with h0 | h0
          · omega
          · exact h0
        obtain ⟨z, hz0, hz1, hz⟩ := hcell k hlt
        clear hcell
        go_wp2
        go_round
        case rel => exact ⟨k + 1, by omega, by go_num, _, rfl⟩
        case measure => simp [intOf]; omega
      · go_wp2
        go_ret
        exact ⟨rfl, h, rfl⟩
    · go_wp2
      go_ret
      exact ⟨rfl, h, rfl⟩

theorem new_cur (a : Option Addr) (len cap B : Nat) (w : World) (hc : CodeRow w B a len) (hB : B ≤ w.heap.size) :
    Calls Tryd.prog 24 #[.slice a len cap] w fun e w' => e = .returned (.pointer (some ⟨w.heap.size, 0, none⟩)) ∧ CurAt w' w.heap.size a len ∧ Below w.heap.size w w' :=
  (new_any a len cap B w hc hB).mono fun e w' ⟨h1, h, h2⟩ => by
    subst h2
    exact ⟨h1, ⟨cap, 0, h, heap_alloc_new w _, Nat.zero_le _⟩, (Below.refl _ _).alloc (Nat.le_refl _) _⟩

set_option maxHeartbeats 1600000 in
theorem byte_any (g : Nat) (a : Option Addr) (len B : Nat) (w : World) (hc : CodeRow w B a len) (hB : B ≤ g) (hcur : CurAt w g a len) :
    Calls Tryd.prog 58 #[.pointer (some ⟨g, 0, none⟩)] w fun e w' => ∃ x : Int, e = .returned (.int .i64 x) ∧ 0 ≤ x ∧ x ≤ 255 ∧ CurAt w' g a len ∧ w.grownBy w' (some g) := by
  obtain ⟨cap, i, h, hb, hi⟩ := hcur
  have hl := hc.1
  have hgl : g < w.heap.size := (Array.getElem?_eq_some_iff.1 hb).1
  have c0 : w.cell? ⟨g, 0, none⟩ = some (.slice a len cap) := by rw [cell_of_row w g 0 _ 81 (0, 0) hb]; rfl
  have c1 : w.cell? ⟨g, 1, none⟩ = some (.int .i64 i) := by rw [cell_of_row w g 1 _ 81 (0, 0) hb]; rfl
  have c2 : w.cell? ⟨g, 2, none⟩ = some (.int .i64 h) := by rw [cell_of_row w g 2 _ 81 (0, 0) hb]; rfl
  have f1 : w.frozen? ⟨g, 1, none⟩ = false := frozen_of_row hb
  have f2 : w.frozen? ⟨g, 2, none⟩ = false := frozen_of_row hb
  have HB : Hid (w.heap[g]? = some (.cells #[.slice a len cap, .int .i64 i, .int .i64 h] 81 (0, 0))) := hb
  have HC : Hid (CodeRow w B a len) := hc
  have ha := i64_and255
  clear hb hc
  by_cases hlt : i < len
  · obtain ⟨b, off, rfl, hbB, hcell⟩ : ∃ b off, a = some ⟨b, off, none⟩ ∧ b < B ∧ ∀ j, j < len → ∃ z : Int, 0 ≤ z ∧ z ≤ 255 ∧ w.cell? ⟨b, off + j, none⟩ = some (.int .u8 z) := by
      rcases HC.out.2 with h0 | h0
      · omega
      · exact h0
    obtain ⟨z, hz0, hz1, hz⟩ := hcell i hlt
    clear hcell
    have l0 : (0 : Int) ≤ (i : Int) := by omega
    have l1 : (i : Int) < (len : Int) := by omega
    have hne : ¬ b = g := by omega
    go_enter Tryd.func58, Tryd.ntmps58
    go_wp2
    go_quiet (fail)
    go_wp2
    go_quiet (fail)
    go_wp2
    go_quiet (fail)
    go_wp2
    go_ret
    refine ⟨_, rfl, Int.emod_nonneg _ (by decide), Int.le_of_lt_add_one (Int.emod_lt_of_pos _ (by decide)), ?_, ?_⟩
    · exact ⟨cap, i + 1, _, cur_i (i' := i + 1) (w := World.drewN _ _) (cur_h HB.out), by omega⟩
    · exact ((grown_setCell w ⟨g, 2, none⟩ _).trans (grown_drewN _ _ _)).trans (grown_setCell _ ⟨g, 1, none⟩ _)
  · have hge : (len : Int) ≤ (i : Int) := by omega
    go_enter Tryd.func58, Tryd.ntmps58
    go_wp2
    go_quiet (fail)
    go_wp2
    go_quiet (fail)
    go_wp2
    go_ret
    refine ⟨_, rfl, Int.emod_nonneg _ (by decide), Int.le_of_lt_add_one (Int.emod_lt_of_pos _ (by decide)), ⟨cap, i, _, cur_h HB.out, hi⟩, ?_⟩
    exact ((grown_setCell w ⟨g, 2, none⟩ _).trans (grown_drewN _ _ _)).trans (grown_drewN _ _ _)

/-- What a call on a cursor leaves: the cursor, and all but it as it was. -/
def CurKept (w w' : World) (g : Nat) (a : Option Addr) (len : Nat) : Prop := CurAt w' g a len ∧ w.grownBy w' (some g)
theorem CurKept.code {w w' : World} {g B : Nat} {a : Option Addr} {len : Nat} (h : CurKept w w' g a len) (hc : CodeRow w B a len) (hB : B ≤ g) (hg : B ≤ w.heap.size) : CodeRow w' B a len :=
  hc.below (below_of_grown h.2 hg (fun k hk => by cases hk; exact hB))
theorem CurKept.trans {w w1 w2 : World} {g : Nat} {a : Option Addr} {len : Nat} (h : CurKept w w1 g a len) (k : CurKept w1 w2 g a len) : CurKept w w2 g a len := ⟨k.1, h.2.trans k.2⟩

set_option maxHeartbeats 800000 in
theorem below_any (g : Nat) (a : Option Addr) (len B : Nat) (n : Int) (w : World) (hc : CodeRow w B a len) (hB : B ≤ g) (hcur : CurAt w g a len) (h1 : 1 ≤ n) (h2 : n ≤ 4294967296) :
    Calls Tryd.prog 29 #[.pointer (some ⟨g, 0, none⟩), .int .i64 n] w fun e w' => ∃ x : Int, e = .returned (.int .i64 x) ∧ 0 ≤ x ∧ x < n ∧ CurKept w w' g a len := by
  have hgB : B ≤ w.heap.size := by have := hcur.lt; omega
  by_cases hs : n ≤ 256
  · go_enter Tryd.func29, Tryd.ntmps29
    go_wp2_with (go_at_call 58; refine (byte_any g a len B _ hc hB hcur).mono ?_; rintro e w1 ⟨x, rfl, hx0, hx1, hk⟩)
    go_ret
    exact ⟨_, rfl, Int.emod_nonneg _ (by omega), Int.emod_lt_of_pos _ (by omega), hk⟩
  · go_enter Tryd.func29, Tryd.ntmps29
    go_wp2_with fail
    refine (byte_any g a len B _ hc hB hcur).mono ?_
    rintro e w1 ⟨x1, rfl, hx1, hy1, hk1⟩
    have hc1 := CurKept.code hk1 hc hB hgB
    go_wp2_with fail
    refine (byte_any g a len B _ hc1 hB hk1.1).mono ?_
    rintro e w2 ⟨x2, rfl, hx2, hy2, hk2⟩
    have hc2 := CurKept.code hk2 hc1 hB (Nat.le_trans hgB hk1.2.size)
    go_wp2_with fail
    refine (byte_any g a len B _ hc2 hB hk2.1).mono ?_
    rintro e w3 ⟨x3, rfl, hx3, hy3, hk3⟩
    have hc3 := CurKept.code hk3 hc2 hB (Nat.le_trans hgB (Nat.le_trans hk1.2.size hk2.2.size))
    go_wp2_with fail
    refine (byte_any g a len B _ hc3 hB hk3.1).mono ?_
    rintro e w4 ⟨x4, rfl, hx4, hy4, hk4⟩
    go_wp2
    go_ret
    exact ⟨_, rfl, Int.emod_nonneg _ (by omega), Int.emod_lt_of_pos _ (by omega), ((CurKept.trans hk1 hk2).trans hk3).trans hk4⟩
end Go.Proofs.YtdokmojifkggjaaDoor

namespace Go.Proofs.YtdokmojifkggjaaDoor
open Go.RowKit
set_option linter.unusedVariables false
set_option maxRecDepth 20000

/-- The bytes of a code, as numbers, wherever they lie below B. -/
def CodeV (w : World) (B : Nat) (a : Option Addr) (zs : List Int) : Prop :=
  zs.length ≤ 2000000 ∧ (∀ j, 0 ≤ zs.getD j 0 ∧ zs.getD j 0 ≤ 255) ∧ (zs = [] ∨ ∃ b off, a = some ⟨b, off, none⟩ ∧ b < B ∧ ∀ j, j < zs.length → w.cell? ⟨b, off + j, none⟩ = some (.int .u8 (zs.getD j 0)))
theorem CodeV.below {w w' : World} {B : Nat} {a : Option Addr} {zs : List Int} (h : CodeV w B a zs) (hb : Below B w w') : CodeV w' B a zs := by
  refine ⟨h.1, h.2.1, ?_⟩
  rcases h.2.2 with h0 | ⟨b, off, ha, hlt, hc⟩
  · exact .inl h0
  · exact .inr ⟨b, off, ha, hlt, fun j hj => (hb.cell (p := ⟨b, off + j, none⟩) hlt).trans (hc j hj)⟩
/-- A cursor in block g: its place in the code and its number. -/
def CurV (w : World) (g : Nat) (a : Option Addr) (len : Nat) (S : Nat × Int) : Prop :=
  ∃ cap : Nat, w.heap[g]? = some (.cells #[.slice a len cap, .int .i64 (S.1 : Int), .int .i64 S.2] 81 (0, 0)) ∧ S.1 ≤ len

/-- The number of a cursor, drawn on. -/
def hN (h : Int) : Int := wrap64 (wrap64 (h * 6364136223846793005) + 1442695040888963407)
def xN (h : Int) : Int := bits BinOp.xor IntKind.i64 (hN h / 8589934592) (hN h / 35184372088832)
/-- What a cursor gives, and its state behind it. -/
def byteF (zs : List Int) (S : Nat × Int) : Int × (Nat × Int) :=
  if S.1 < zs.length then ((xN S.2 + zs.getD S.1 0) % 256, (S.1 + 1, hN S.2)) else (xN S.2 % 256, (S.1, hN S.2))
theorem byteF_bd (zs : List Int) (S : Nat × Int) : 0 ≤ (byteF zs S).1 ∧ (byteF zs S).1 ≤ 255 := by
  unfold byteF
  split
  · exact ⟨Int.emod_nonneg _ (by decide), Int.le_of_lt_add_one (Int.emod_lt_of_pos _ (by decide))⟩
  · exact ⟨Int.emod_nonneg _ (by decide), Int.le_of_lt_add_one (Int.emod_lt_of_pos _ (by decide))⟩
/-- What a call on a cursor leaves: the cursor in its new state, and all but it as it was. -/
def CurTo (w w' : World) (g : Nat) (a : Option Addr) (len : Nat) (S : Nat × Int) : Prop := CurV w' g a len S ∧ w.grownBy w' (some g)
theorem CurV.lt {w : World} {g : Nat} {a : Option Addr} {len : Nat} {S : Nat × Int} (h : CurV w g a len S) : g < w.heap.size := by
  obtain ⟨cap, h1, _⟩ := h
  exact (Array.getElem?_eq_some_iff.1 h1).1
theorem CurV.kept {w w' : World} {g : Nat} {a : Option Addr} {len : Nat} {S : Nat × Int} {row : Option Nat} (h : CurV w g a len S) (hg : w.grownBy w' row) (hne : some g ≠ row) : CurV w' g a len S := by
  obtain ⟨cap, h1, h2⟩ := h
  exact ⟨cap, by rw [hg.block g (Array.getElem?_eq_some_iff.1 h1).1 hne]; exact h1, h2⟩
theorem CurTo.code {w w' : World} {g B : Nat} {a : Option Addr} {zs : List Int} {S : Nat × Int} (h : CurTo w w' g a zs.length S) (hc : CodeV w B a zs) (hB : B ≤ g) (hg : B ≤ w.heap.size) : CodeV w' B a zs :=
  hc.below (below_of_grown h.2 hg (fun k hk => by cases hk; exact hB))

set_option maxHeartbeats 1600000 in
theorem byte_val (g : Nat) (a : Option Addr) (zs : List Int) (B : Nat) (S : Nat × Int) (w : World) (hc : CodeV w B a zs) (hB : B ≤ g) (hcur : CurV w g a zs.length S) :
    Calls Tryd.prog 58 #[.pointer (some ⟨g, 0, none⟩)] w fun e w' => e = .returned (.int .i64 (byteF zs S).1) ∧ CurTo w w' g a zs.length (byteF zs S).2 := by
  obtain ⟨i, h⟩ := S
  obtain ⟨cap, hb, hi⟩ := hcur
  simp only at hb hi
  obtain ⟨len, hlen⟩ : ∃ len, len = zs.length := ⟨_, rfl⟩
  rw [← hlen] at hb hi
  have hl : len ≤ 2000000 := by rw [hlen]; exact hc.1
  have hgl : g < w.heap.size := (Array.getElem?_eq_some_iff.1 hb).1
  have c0 : w.cell? ⟨g, 0, none⟩ = some (.slice a len cap) := by rw [cell_of_row w g 0 _ 81 (0, 0) hb]; rfl
  have c1 : w.cell? ⟨g, 1, none⟩ = some (.int .i64 i) := by rw [cell_of_row w g 1 _ 81 (0, 0) hb]; rfl
  have c2 : w.cell? ⟨g, 2, none⟩ = some (.int .i64 h) := by rw [cell_of_row w g 2 _ 81 (0, 0) hb]; rfl
  have f1 : w.frozen? ⟨g, 1, none⟩ = false := frozen_of_row hb
  have f2 : w.frozen? ⟨g, 2, none⟩ = false := frozen_of_row hb
  have HB : Hid (w.heap[g]? = some (.cells #[.slice a len cap, .int .i64 (i : Int), .int .i64 h] 81 (0, 0))) := hb
  have HC : Hid (CodeV w B a zs ∧ len = zs.length) := ⟨hc, hlen⟩
  have ha := i64_and255
  clear hb hc hlen
  by_cases hlt : i < len
  · obtain ⟨b, off, rfl, hbB, hcell⟩ : ∃ b off, a = some ⟨b, off, none⟩ ∧ b < B ∧ ∀ j, j < len → w.cell? ⟨b, off + j, none⟩ = some (.int .u8 (zs.getD j 0)) := by
      rcases HC.out.1.2.2 with h0 | ⟨b, off, h1, h2, h3⟩
      · have := HC.out.2; rw [h0] at this; simp at this; omega
      · exact ⟨b, off, h1, h2, fun j hj => h3 j (by rw [← HC.out.2]; exact hj)⟩
    have hz := hcell i hlt
    obtain ⟨hz0, hz1⟩ := HC.out.1.2.1 i
    clear hcell
    have HF : Hid (byteF zs (i, h) = ((xN h + zs.getD i 0) % 256, (i + 1, hN h))) := by show _ = _; unfold byteF; rw [if_pos (by show i < _; rw [← HC.out.2]; exact hlt)]
    rw [← HC.out.2]
    generalize zs.getD i 0 = z at *
    have l0 : (0 : Int) ≤ (i : Int) := by omega
    have l1 : (i : Int) < (len : Int) := by omega
    have hne : ¬ b = g := by omega
    go_enter Tryd.func58, Tryd.ntmps58
    go_wp2
    go_quiet (fail)
    go_wp2
    go_quiet (fail)
    go_wp2
    go_quiet (fail)
    go_wp2
    go_ret
    rw [HF.out]
    refine ⟨rfl, ⟨cap, cur_i (i' := i + 1) (w := World.drewN _ _) (cur_h HB.out), by show i + 1 ≤ len; omega⟩, ?_⟩
    exact ((grown_setCell w ⟨g, 2, none⟩ _).trans (grown_drewN _ _ _)).trans (grown_setCell _ ⟨g, 1, none⟩ _)
  · have hge : (len : Int) ≤ (i : Int) := by omega
    have HF : Hid (byteF zs (i, h) = (xN h % 256, (i, hN h))) := by show _ = _; unfold byteF; rw [if_neg (by show ¬ i < _; rw [← HC.out.2]; exact hlt)]
    rw [← HC.out.2]
    go_enter Tryd.func58, Tryd.ntmps58
    go_wp2
    go_quiet (fail)
    go_wp2
    go_quiet (fail)
    go_wp2
    go_ret
    rw [HF.out]
    refine ⟨rfl, ⟨cap, cur_h HB.out, by omega⟩, ?_⟩
    exact ((grown_setCell w ⟨g, 2, none⟩ _).trans (grown_drewN _ _ _)).trans (grown_drewN _ _ _)

/-- The number that a cursor begins with, behind k bytes. -/
def newH (zs : List Int) : Nat → Int
  | 0 => 94701 + (zs.length : Int)
  | k + 1 => bits BinOp.and IntKind.i64 (wrap64 (wrap64 (wrap64 (newH zs k * 131) + zs.getD k 0) + 7)) 1073741823
def newF (zs : List Int) : Nat × Int := (0, newH zs (min zs.length 4000))

set_option maxHeartbeats 800000 in
theorem new_val (a : Option Addr) (cap B : Nat) (zs : List Int) (w : World) (hc : CodeV w B a zs) (hB : B ≤ w.heap.size) :
    Calls Tryd.prog 24 #[.slice a zs.length cap] w fun e w' => e = .returned (.pointer (some ⟨w.heap.size, 0, none⟩)) ∧ CurV w' w.heap.size a zs.length (newF zs) ∧ Below w.heap.size w w' := by
  have hl := hc.1
  have HC : Hid (CodeV w B a zs) := hc
  clear hc
  obtain ⟨len, hlen⟩ : ∃ len, len = zs.length := ⟨_, rfl⟩
  have HN : Hid (len = zs.length) := hlen
  rw [← hlen] at hl ⊢
  clear hlen
  go_enter Tryd.func24, Tryd.ntmps24
  go_wp2
  go_loop [3, 4] (fun x i => ∃ k : Nat, k ≤ len ∧ (k : Int) ≤ 4000 ∧ i = .int .i64 k ∧ x = .int .i64 (newH zs k)) (fun _ i => len - (intOf i).toNat)
  case atStart => exact ⟨0, Nat.zero_le _, by omega, rfl, by rw [newH, ← HN.out]⟩
  case round =>
    obtain ⟨k, hk, hk4, rfl, rfl⟩ := hrel
    by_cases hlt : k < len
    · by_cases h4 : (k : Int) < 4000
      · obtain ⟨b, off, rfl, hbB, hcell⟩ : ∃ b off, a = some ⟨b, off, none⟩ ∧ b < B ∧ ∀ j, j < len → w.cell? ⟨b, off + j, none⟩ = some (.int .u8 (zs.getD j 0)) := by
          rcases HC.out.2.2 with h0 | ⟨b, off, h1, h2, h3⟩
          · have := HN.out; rw [h0] at this; simp at this; omega
          · exact ⟨b, off, h1, h2, fun j hj => h3 j (by rw [← HN.out]; exact hj)⟩
        have hz := hcell k hlt
        obtain ⟨hz0, hz1⟩ := HC.out.2.1 k
        have HH : Hid (newH zs (k + 1) = bits BinOp.and IntKind.i64 (wrap64 (wrap64 (wrap64 (newH zs k * 131) + zs.getD k 0) + 7)) 1073741823) := rfl
        clear hcell
        generalize newH zs k = h at *
        generalize zs.getD k 0 = z at *
        go_wp2
        go_round
        case rel => exact ⟨k + 1, by omega, by omega, by go_num, by rw [HH.out]⟩
        case measure => simp [intOf]; omega
      · have HV : Hid (newF zs = (0, newH zs k)) := by show _ = _; unfold newF; rw [show min zs.length 4000 = k by have := HN.out; omega]
        go_wp2
        go_ret
        rw [HV.out]
        exact ⟨rfl, ⟨cap, heap_alloc_new w _, Nat.zero_le _⟩, (Below.refl _ _).alloc (Nat.le_refl _) _⟩
    · have HV : Hid (newF zs = (0, newH zs k)) := by show _ = _; unfold newF; rw [show min zs.length 4000 = k by have := HN.out; omega]
      go_wp2
      go_ret
      rw [HV.out]
      exact ⟨rfl, ⟨cap, heap_alloc_new w _, Nat.zero_le _⟩, (Below.refl _ _).alloc (Nat.le_refl _) _⟩

def belF (zs : List Int) (n : Int) (S : Nat × Int) : Int × (Nat × Int) := ((byteF zs S).1 % n, (byteF zs S).2)
theorem belF_bd (zs : List Int) (n : Int) (S : Nat × Int) (h : 1 ≤ n) : 0 ≤ (belF zs n S).1 ∧ (belF zs n S).1 < n := ⟨Int.emod_nonneg _ (by omega), Int.emod_lt_of_pos _ (by omega)⟩
set_option maxHeartbeats 800000 in
theorem below_val (g : Nat) (a : Option Addr) (zs : List Int) (B : Nat) (n : Int) (S : Nat × Int) (w : World) (hc : CodeV w B a zs) (hB : B ≤ g) (hcur : CurV w g a zs.length S) (h1 : 1 ≤ n) (h2 : n ≤ 256) :
    Calls Tryd.prog 29 #[.pointer (some ⟨g, 0, none⟩), .int .i64 n] w fun e w' => e = .returned (.int .i64 (belF zs n S).1) ∧ CurTo w w' g a zs.length (belF zs n S).2 := by
  obtain ⟨b0, b1⟩ := byteF_bd zs S
  have HV : Hid (belF zs n S = ((byteF zs S).1 % n, (byteF zs S).2)) := rfl
  have HC : Hid (Calls _ _ _ _ _) := byte_val g a zs B S w hc hB hcur
  clear hc hcur
  generalize (byteF zs S).1 = x at *
  generalize (byteF zs S).2 = S2 at *
  go_enter Tryd.func29, Tryd.ntmps29
  go_wp2_with (go_at_call 58; refine HC.out.mono ?_; rintro e w1 ⟨rfl, hk⟩)
  go_ret
  rw [HV.out]
  exact ⟨rfl, hk⟩
theorem once_val (g : Nat) (a : Option Addr) (zs : List Int) (B : Nat) (n : Int) (S : Nat × Int) (w : World) (hc : CodeV w B a zs) (hB : B ≤ g) (hcur : CurV w g a zs.length S) (h1 : 1 ≤ n) (h2 : n ≤ 256) :
    Calls Tryd.prog 56 #[.pointer (some ⟨g, 0, none⟩), .int .i64 n] w fun e w' => e = .returned (.bool ((belF zs n S).1 == 0)) ∧ CurTo w w' g a zs.length (belF zs n S).2 := by
  have HC : Hid (Calls _ _ _ _ _) := below_val g a zs B n S w hc hB hcur h1 h2
  clear hc hcur
  go_enter Tryd.func56, Tryd.ntmps56
  go_wp2_with (go_at_call 29; refine HC.out.mono ?_; rintro e w1 ⟨rfl, hk⟩)
  go_ret
  exact ⟨rfl, hk⟩
end Go.Proofs.YtdokmojifkggjaaDoor

namespace Go.Proofs.YtdokmojifkggjaaDoor
open Go.RowKit
set_option linter.unusedVariables false
set_option maxRecDepth 20000

theorem infoB : (Tryd.prog.info? 5).map (fun i => (i.zero, i.size, i.bytes)) = some (some (.int .u8 0), 1, 1) := by kernel_rfl
theorem convD {w : World} {B n : Nat} {v : Value} {zs : List Int} (h : w.ownsRow B 5 1 v n (zs.map (Value.int .u8))) :
    (convert 22 9 v).run Tryd.prog w = .ok (.string (strOfNums zs)) w := by
  have hl := h.1
  simp at hl
  rcases h.2 with ⟨rfl, rfl⟩ | ⟨g, cap, cur, rfl, _, hg, hn, _, hsz, htake⟩
  · rw [run_convert_bytes_nil w 22 5 Tryd.underlying22 Tryd.underlying5 0 0 9 Tryd.underlying9]
    have : zs = [] := List.eq_nil_of_length_eq_zero hl
    subst this; rfl
  · refine run_convert_bytes_arg w 22 5 Tryd.underlying22 Tryd.underlying5 g 0 n cap zs hl (fun i hi => ?_) 9 Tryd.underlying9
    rw [Nat.zero_add, cell_of_row w g i cur 5 (0, 0) hg]
    have hi' : i < zs.length := by omega
    have e1 : (cur.toList.take (n * 1))[i]? = (zs.map (Value.int .u8))[i]? := by rw [htake]
    rw [List.getElem?_take, if_pos (by omega)] at e1
    simp [List.getElem?_eq_getElem hi'] at e1 ⊢
    exact e1

/-- What a round that appends leaves: the cursor, the row, and all that was there but the cursor. -/
theorem cur_append {w wr w1 w2 : World} {g : Nat} {a : Option Addr} {len e n m : Nat} {v v' : Value} {xs ys : List Value} {o : Obj}
    (hgr : w.grownBy wr (some g)) (hown : wr.ownsRow w.heap.size e 1 v n xs) (hgw : g < w.heap.size) (hk : CurKept wr w1 g a len)
    (hgrow : (w1.alloc o).grownBy w2 v.ownBlock) : CurAt w2 g a len ∧ w.grownBy w2 (some g) := by
  have hne : some g ≠ v.ownBlock := fun h => by have := (hown.lt g h.symm).1; omega
  refine ⟨(hk.1.kept (World.grownBy_alloc w1 o none) (by simp)).kept hgrow hne, ?_⟩
  refine ((hgr.trans hk.2).trans (World.grownBy_alloc w1 o (some g))).andThen hgrow (fun j hj => .inl (hown.lt j hj).1)
theorem own_cur {w wr w1 : World} {g : Nat} {a : Option Addr} {len e n : Nat} {v : Value} {xs : List Value}
    (hown : wr.ownsRow w.heap.size e 1 v n xs) (hgw : g < w.heap.size) (hk : CurKept wr w1 g a len) : w1.ownsRow w.heap.size e 1 v n xs :=
  hown.kept hk.2 (.inr fun h => by have := (hown.lt g h).1; omega)
end Go.Proofs.YtdokmojifkggjaaDoor

namespace Go.Proofs.YtdokmojifkggjaaDoor
open Go.RowKit
set_option linter.unusedVariables false
set_option maxRecDepth 20000

set_option maxHeartbeats 800000 in
theorem signs_any (g : Nat) (a : Option Addr) (len B n : Nat) (w : World) (hc : CodeRow w B a len) (hB : B ≤ g) (hcur : CurAt w g a len) (hn : n ≤ 1000000) :
    Calls Tryd.prog 28 #[.pointer (some ⟨g, 0, none⟩), .int .i64 n] w fun e w' => ∃ l : List Int, e = .returned (.string (strOfNums l)) ∧ l.length = n ∧ (∀ x ∈ l, x = 48 ∨ x = 49) ∧ CurKept w w' g a len := by
  obtain ⟨i0, hi0, hz0, hz1, hz2⟩ := info_parts infoB
  have hgw := hcur.lt
  go_enter Tryd.func28, Tryd.ntmps28
  go_wp2
  go_loopw [5, 6] (fun v i wr => ∃ (k : Nat) (l : List Int), k ≤ n ∧ i = .int .i64 k ∧ l.length = k ∧ (∀ x ∈ l, x = 48 ∨ x = 49) ∧ wr.ownsRow w.heap.size 5 1 v k (l.map (Value.int .u8)) ∧ CurAt wr g a len ∧ w.grownBy wr (some g))
    (fun _ i _ => n - (intOf i).toNat)
  case atStart => exact ⟨0, [], Nat.zero_le _, rfl, rfl, (fun x hx => by cases hx), World.ownsRow_made w #[] 0 (Nat.le_refl _) (by unfold maxLen; omega) rfl, hcur.kept (World.grownBy_alloc w _ none) (by simp), World.grownBy_alloc w _ _⟩
  case round =>
    obtain ⟨k, l, hk, rfl, hll, hls, hown, hcr, hgr⟩ := hrel
    have HL : Hid (l.length = k) := hll
    have HS : Hid (∀ x ∈ l, x = 48 ∨ x = 49) := hls
    clear hll hls
    by_cases hlt : k < n
    · have hcr' : CodeRow wr B a len := hc.below (below_of_grown hgr (by omega) (fun j hj => by cases hj; exact hB))
      have hBr : B ≤ wr.heap.size := by have := hgr.size; omega
      go_wp2_with (first
        | (go_at_call 29; refine (below_any g a len B 2 _ hcr' hB hcr (by omega) (by omega)).mono ?_; rintro e w1 ⟨x, rfl, hx0, hx1, hkp⟩; have hown' := own_cur hown hgw hkp; have hsz1 := hkp.2.size; have hsz0 := hgr.size)
        | (at_builtin; refine wpList_append_lies _ (by rfl) _ _ 22 (by rfl) w.heap.size 5 i0 (.int .u8 0) 1 1 Tryd.underlying22 hi0 hz0 hz1 hz2 rfl (by omega) u5 k _ (by rfl) (hown'.alloc _) ⟨w1.heap.size, 0, none⟩ 1 1 [.int .u8 (48 + x)] (by rfl) (by rfl) (World.news_of_block (cs := #[.int .u8 (48 + x)]) (t := 5) (fr := (0, 0)) (heap_alloc_new w1 _)) (by simp [Value.oneCell']) (by omega) (by unfold maxLen; omega) (by omega) (by simp; omega) (w1.heap.size + 1) (by simp) ?_; intro gg cp w2 hown2 hgrow hat hlt2))
      have R := cur_append (v' := u5) (ys := []) (m := 0) hgr hown hgw hkp hgrow
      have hown3 : w2.ownsRow w.heap.size 5 1 (.slice (some ⟨gg, 0, none⟩) (k + 1) cp) (k + 1) ((l ++ [48 + x]).map (Value.int .u8)) := by simpa using hown2
      clear hown2 hgrow hat hlt2 hown hown' hcr hcr' hkp
      go_roundw
      case rel => exact ⟨k + 1, l ++ [48 + x], by omega, by go_num, by have := HL.out; simp; omega, fun y hy => by
        rcases List.mem_append.1 hy with h | h
        · exact HS.out y h
        · simp at h; subst h; omega, hown3, R.1, R.2⟩
      case measure => simp [intOf]; omega
    · obtain rfl : k = n := by omega
      have hconv := convD hown
      go_wp2
      go_ret
      exact ⟨l, rfl, HL.out, HS.out, hcr, hgr⟩

set_option maxHeartbeats 800000 in
theorem drawRow_any (a : Option Addr) (len cap B : Nat) (w : World) (hc : CodeRow w B a len) (hB : B ≤ w.heap.size) :
    Calls Tryd.prog 9 #[.slice a len cap] w fun e w' => ∃ l : List Int, e = .returned (.string (strOfNums l)) ∧ l.length ≤ 60 ∧ (∀ x ∈ l, x = 48 ∨ x = 49) ∧ Below w.heap.size w w' := by
  go_enter Tryd.func9, Tryd.ntmps9
  go_wp2_with fail
  refine (new_cur a len cap B _ hc hB).mono ?_
  rintro e w1 ⟨rfl, hcur, hb1⟩
  have hc1 := hc.below (hb1.mono hB)
  go_wp2_with fail
  refine (below_any _ a len B 61 _ hc1 hB hcur (by omega) (by omega)).mono ?_
  rintro e w2 ⟨x, rfl, hx0, hx1, hk⟩
  obtain ⟨n, rfl⟩ := Int.eq_ofNat_of_zero_le hx0
  have hs1 := hb1.size
  have hc2 := hk.code hc1 hB (by omega)
  go_wp2_with fail
  refine (signs_any _ a len B n _ hc2 hB hk.1 (by omega)).mono ?_
  rintro e w3 ⟨l, rfl, hl, hs, hk3⟩
  go_wp2
  go_ret
  exact ⟨l, rfl, by omega, hs, (hb1.trans (below_of_grown hk.2 hs1 (fun j hj => by cases hj; exact Nat.le_refl _))).trans (below_of_grown hk3.2 (Nat.le_trans hs1 hk.2.size) (fun j hj => by cases hj; exact Nat.le_refl _))⟩
end Go.Proofs.YtdokmojifkggjaaDoor
