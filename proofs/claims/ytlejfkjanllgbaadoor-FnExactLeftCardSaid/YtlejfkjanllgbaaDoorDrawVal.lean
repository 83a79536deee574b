/-
  The draws with their values: what a cursor gives is told by its code and its state alone.
-/
import Derived.Test.YtlejfkjanllgbaaDoorDrawWalks
namespace Go.Proofs.YtlejfkjanllgbaaDoor
open Go.RowKit
set_option linter.unusedVariables false
set_option maxRecDepth 20000

/-- The bytes of a code, as numbers, wherever they lie below B. -/
def CodeV (w : World) (B : Nat) (a : Option Addr) (zs : List Int) : Prop :=
  zs.length ≤ 2000000 ∧ (∀ j, 0 ≤ zs.getD j 0 ∧ zs.getD j 0 ≤ 255) ∧ (zs = [] ∨ ∃ b off, a = some ⟨b, off, none⟩ ∧ b < B ∧ ∀ j, j < zs.length → w.cell? ⟨b, off + j, none⟩ = some (.int .u8 (zs.getD j 0)))
theorem CodeV.below {w w' : World} {B : Nat} {a : Option Addr} {zs : List Int} (h : CodeV w B a zs) (hb : Below B w w') : CodeV w' B a zs := by
  refine ⟨h.1, h.2.1, ?_⟩
  rcases h.2.2 with h0 | ⟨b, off, ha, hlt, hc⟩
  · exact .inl h0
  · exact .inr ⟨b, off, ha, hlt, fun j hj => (hb.cell (p := ⟨b, off + j, none⟩) hlt).trans (hc j hj)⟩
/-- A cursor in block g: its place in the code and its number. -/
def CurV (w : World) (g : Nat) (a : Option Addr) (len : Nat) (S : Nat × Int) : Prop :=
  ∃ cap : Nat, w.heap[g]? = some (.cells #[.slice a len cap, .int .i64 (S.1 : Int), .int .i64 S.2] 66 (0, 0)) ∧ S.1 ≤ len

/-- The number of a cursor, drawn on. -/
def hN (h : Int) : Int := wrap64 (wrap64 (h * 6364136223846793005) + 1442695040888963407)
def xN (h : Int) : Int := bits BinOp.xor IntKind.i64 (hN h / 8589934592) (hN h / 35184372088832)
/-- What a cursor gives, and its state behind it. -/
def byteF (zs : List Int) (S : Nat × Int) : Int × (Nat × Int) :=
  if S.1 < zs.length then ((xN S.2 + zs.getD S.1 0) % 256, (S.1 + 1, hN S.2)) else (xN S.2 % 256, (S.1, hN S.2))
theorem byteF_bd (zs : List Int) (S : Nat × Int) : 0 ≤ (byteF zs S).1 ∧ (byteF zs S).1 ≤ 255 := by
  unfold byteF
  split
  · exact ⟨Int.emod_nonneg _ (by decide), Int.le_of_lt_add_one (Int.emod_lt_of_pos _ (by decide))⟩
  · exact ⟨Int.emod_nonneg _ (by decide), Int.le_of_lt_add_one (Int.emod_lt_of_pos _ (by decide))⟩
/-- What a call on a cursor leaves: the cursor in its new state, and all but it as it was. -/
def CurTo (w w' : World) (g : Nat) (a : Option Addr) (len : Nat) (S : Nat × Int) : Prop := CurV w' g a len S ∧ w.grownBy w' (some g)
theorem CurV.lt {w : World} {g : Nat} {a : Option Addr} {len : Nat} {S : Nat × Int} (h : CurV w g a len S) : g < w.heap.size := by
  obtain ⟨cap, h1, _⟩ := h
  exact (Array.getElem?_eq_some_iff.1 h1).1
theorem CurV.kept {w w' : World} {g : Nat} {a : Option Addr} {len : Nat} {S : Nat × Int} {row : Option Nat} (h : CurV w g a len S) (hg : w.grownBy w' row) (hne : some g ≠ row) : CurV w' g a len S := by
  obtain ⟨cap, h1, h2⟩ := h
  exact ⟨cap, by rw [hg.block g (Array.getElem?_eq_some_iff.1 h1).1 hne]; exact h1, h2⟩
theorem CurTo.code {w w' : World} {g B : Nat} {a : Option Addr} {zs : List Int} {S : Nat × Int} (h : CurTo w w' g a zs.length S) (hc : CodeV w B a zs) (hB : B ≤ g) (hg : B ≤ w.heap.size) : CodeV w' B a zs :=
  hc.below (below_of_grown h.2 hg (fun k hk => by cases hk; exact hB))

set_option maxHeartbeats 1600000 in
theorem byte_val (g : Nat) (a : Option Addr) (zs : List Int) (B : Nat) (S : Nat × Int) (w : World) (hc : CodeV w B a zs) (hB : B ≤ g) (hcur : CurV w g a zs.length S) :
    Calls Tryd.prog 51 #[.pointer (some ⟨g, 0, none⟩)] w fun e w' => e = .returned (.int .i64 (byteF zs S).1) ∧ CurTo w w' g a zs.length (byteF zs S).2 := by
  obtain ⟨i, h⟩ := S
  obtain ⟨cap, hb, hi⟩ := hcur
  simp only at hb hi
  obtain ⟨len, hlen⟩ : ∃ len, len = zs.length := ⟨_, rfl⟩
  rw [← hlen] at hb hi
  have hl : len ≤ 2000000 := by rw [hlen]; exact hc.1
  have hgl : g < w.heap.size := (Array.getElem?_eq_some_iff.1 hb).1
  have c0 : w.cell? ⟨g, 0, none⟩ = some (.slice a len cap) := by rw [cell_of_row w g 0 _ 66 (0, 0) hb]; rfl
  have c1 : w.cell? ⟨g, 1, none⟩ = some (.int .i64 i) := by rw [cell_of_row w g 1 _ 66 (0, 0) hb]; rfl
  have c2 : w.cell? ⟨g, 2, none⟩ = some (.int .i64 h) := by rw [cell_of_row w g 2 _ 66 (0, 0) hb]; rfl
  have f1 : w.frozen? ⟨g, 1, none⟩ = false := frozen_of_row hb
  have f2 : w.frozen? ⟨g, 2, none⟩ = false := frozen_of_row hb
  have HB : Hid (w.heap[g]? = some (.cells #[.slice a len cap, .int .i64 (i : Int), .int .i64 h] 66 (0, 0))) := hb
  have HC : Hid (CodeV w B a zs ∧ len = zs.length) := ⟨hc, hlen⟩
  have ha := i64_and255
  clear hb hc hlen
  by_cases hlt : i < len
  · obtain ⟨b, off, rfl, hbB, hcell⟩ : ∃ b off, a = some ⟨b, off, none⟩ ∧ b < B ∧ ∀ j, j < len → w.cell? ⟨b, off + j, none⟩ = some (.int .u8 (zs.getD j 0)) := by
      rcases HC.out.1.2.2 with h0 | ⟨b, off, h1, h2, h3⟩
      · have := HC.out.2; rw [h0] at this; simp at this; omega
      · exact ⟨b, off, h1, h2, fun j hj => h3 j (by rw [← HC.out.2]; exact hj)⟩
    have hz := hcell i hlt
    obtain ⟨hz0, hz1⟩ := HC.out.1.2.1 i
    clear hcell
    have HF : Hid (byteF zs (i, h) = ((xN h + zs.getD i 0) % 256, (i + 1, hN h))) := by show _ = _; unfold byteF; rw [if_pos (by show i < _; rw [← HC.out.2]; exact hlt)]
    rw [← HC.out.2]
    generalize zs.getD i 0 = z at *
    have l0 : (0 : Int) ≤ (i : Int) := by omega
    have l1 : (i : Int) < (len : Int) := by omega
    have hne : ¬ b = g := by omega
    go_enter Tryd.func51, Tryd.ntmps51
    go_wp2
    go_quiet (fail)
    go_wp2
    go_quiet (fail)
    go_wp2
    go_quiet (fail)
    go_wp2
    go_ret
    rw [HF.out]
    refine ⟨rfl, ⟨cap, cur_i (i' := i + 1) (w := World.drewN _ _) (cur_h HB.out), by show i + 1 ≤ len; omega⟩, ?_⟩
    exact ((grown_setCell w ⟨g, 2, none⟩ _).trans (grown_drewN _ _ _)).trans (grown_setCell _ ⟨g, 1, none⟩ _)
  · have hge : (len : Int) ≤ (i : Int) := by omega
    have HF : Hid (byteF zs (i, h) = (xN h % 256, (i, hN h))) := by show _ = _; unfold byteF; rw [if_neg (by show ¬ i < _; rw [← HC.out.2]; exact hlt)]
    rw [← HC.out.2]
    go_enter Tryd.func51, Tryd.ntmps51
    go_wp2
    go_quiet (fail)
    go_wp2
    go_quiet (fail)
    go_wp2
    go_ret
    rw [HF.out]
    refine ⟨rfl, ⟨cap, cur_h HB.out, by omega⟩, ?_⟩
    exact ((grown_setCell w ⟨g, 2, none⟩ _).trans (grown_drewN _ _ _)).trans (grown_drewN _ _ _)

/-- The number that a cursor begins with, behind k bytes. -/
def newH (zs : List Int) : Nat → Int
  | 0 => 94701 + (zs.length : Int)
  | k + 1 => bits BinOp.and IntKind.i64 (wrap64 (wrap64 (wrap64 (newH zs k * 131) + zs.getD k 0) + 7)) 1073741823
def newF (zs : List Int) : Nat × Int := (0, newH zs (min zs.length 4000))

set_option maxHeartbeats 800000 in
theorem new_val (a : Option Addr) (cap B : Nat) (zs : List Int) (w : World) (hc : CodeV w B a zs) (hB : B ≤ w.heap.size) :
    Calls Tryd.prog 23 #[.slice a zs.length cap] w fun e w' => e = .returned (.pointer (some ⟨w.heap.size, 0, none⟩)) ∧ CurV w' w.heap.size a zs.length (newF zs) ∧ Below w.heap.size w w' := by
  have hl := hc.1
  have HC : Hid (CodeV w B a zs) := hc
  clear hc
  obtain ⟨len, hlen⟩ : ∃ len, len = zs.length := ⟨_, rfl⟩
  have HN : Hid (len = zs.length) := hlen
  rw [← hlen] at hl ⊢
  clear hlen
  go_enter Tryd.func23, Tryd.ntmps23
  go_wp2
  go_loop [3, 4] (fun x i => ∃ k : Nat, k ≤ len ∧ (k : Int) ≤ 4000 ∧ i = .int .i64 k ∧ x = .int .i64 (newH zs k)) (fun _ i => len - (intOf i).toNat)
  case atStart => exact ⟨0, Nat.zero_le _, by omega, rfl, by rw [newH, ← HN.out]⟩
  case round =>
    obtain ⟨k, hk, hk4, rfl, rfl⟩ := hrel
    by_cases hlt : k < len
    · by_cases h4 : (k : Int) < 4000
      · obtain ⟨b, off, rfl, hbB, hcell⟩ : ∃ b off, a = some ⟨b, off, none⟩ ∧ b < B ∧ ∀ j, j < len → w.cell? ⟨b, off + j, none⟩ = some (.int .u8 (zs.getD j 0)) := by
          rcases HC.out.2.2 with h0 | ⟨b, off, h1, h2, h3⟩
          · have := HN.out; rw [h0] at this; simp at this; omega
          · exact ⟨b, off, h1, h2, fun j hj => h3 j (by rw [← HN.out]; exact hj)⟩
        have hz := hcell k hlt
        obtain ⟨hz0, hz1⟩ := HC.out.2.1 k
        have HH : Hid (newH zs (k + 1) = bits BinOp.and IntKind.i64 (wrap64 (wrap64 (wrap64 (newH zs k * 131) + zs.getD k 0) + 7)) 1073741823) := rfl
        clear hcell
        generalize newH zs k = h at *
        generalize zs.getD k 0 = z at *
        go_wp2
        go_round
        case rel => exact ⟨k + 1, by omega, by omega, by go_num, by rw [HH.out]⟩
        case measure => simp [intOf]; omega
      · have HV : Hid (newF zs = (0, newH zs k)) := by show _ = _; unfold newF; rw [show min zs.length 4000 = k by have := HN.out; omega]
        go_wp2
        go_ret
        rw [HV.out]
        exact ⟨rfl, ⟨cap, heap_alloc_new w _, Nat.zero_le _⟩, (Below.refl _ _).alloc (Nat.le_refl _) _⟩
    · have HV : Hid (newF zs = (0, newH zs k)) := by show _ = _; unfold newF; rw [show min zs.length 4000 = k by have := HN.out; omega]
      go_wp2
      go_ret
      rw [HV.out]
      exact ⟨rfl, ⟨cap, heap_alloc_new w _, Nat.zero_le _⟩, (Below.refl _ _).alloc (Nat.le_refl _) _⟩

def belF (zs : List Int) (n : Int) (S : Nat × Int) : Int × (Nat × Int) := ((byteF zs S).1 % n, (byteF zs S).2)
theorem belF_bd (zs : List Int) (n : Int) (S : Nat × Int) (h : 1 ≤ n) : 0 ≤ (belF zs n S).1 ∧ (belF zs n S).1 < n := ⟨Int.emod_nonneg _ (by omega), Int.emod_lt_of_pos _ (by omega)⟩
set_option maxHeartbeats 800000 in
theorem below_val (g : Nat) (a : Option Addr) (zs : List Int) (B : Nat) (n : Int) (S : Nat × Int) (w : World) (hc : CodeV w B a zs) (hB : B ≤ g) (hcur : CurV w g a zs.length S) (h1 : 1 ≤ n) (h2 : n ≤ 256) :
    Calls Tryd.prog 25 #[.pointer (some ⟨g, 0, none⟩), .int .i64 n] w fun e w' => e = .returned (.int .i64 (belF zs n S).1) ∧ CurTo w w' g a zs.length (belF zs n S).2 := by
  obtain ⟨b0, b1⟩ := byteF_bd zs S
  have HV : Hid (belF zs n S = ((byteF zs S).1 % n, (byteF zs S).2)) := rfl
  have HC : Hid (Calls _ _ _ _ _) := byte_val g a zs B S w hc hB hcur
  clear hc hcur
  generalize (byteF zs S).1 = x at *
  generalize (byteF zs S).2 = S2 at *
  go_enter Tryd.func25, Tryd.ntmps25
  go_wp2_with (go_at_call 51; refine HC.out.mono ?_; rintro e w1 ⟨rfl, hk⟩)
  go_ret
  rw [HV.out]
  exact ⟨rfl, hk⟩
theorem once_val (g : Nat) (a : Option Addr) (zs : List Int) (B : Nat) (n : Int) (S : Nat × Int) (w : World) (hc : CodeV w B a zs) (hB : B ≤ g) (hcur : CurV w g a zs.length S) (h1 : 1 ≤ n) (h2 : n ≤ 256) :
    Calls Tryd.prog 24 #[.pointer (some ⟨g, 0, none⟩), .int .i64 n] w fun e w' => e = .returned (.bool ((belF zs n S).1 == 0)) ∧ CurTo w w' g a zs.length (belF zs n S).2 := by
  have HC : Hid (Calls _ _ _ _ _) := below_val g a zs B n S w hc hB hcur h1 h2
  clear hc hcur
  go_enter Tryd.func24, Tryd.ntmps24
  go_wp2_with (go_at_call 25; refine HC.out.mono ?_; rintro e w1 ⟨rfl, hk⟩)
  go_ret
  exact ⟨rfl, hk⟩
end Go.Proofs.YtlejfkjanllgbaaDoor
