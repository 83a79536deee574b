/-
  The walks of spec.l02Bytes and spec.RowBytes: a row in bytes.
-/
import Derived.Test.YtdokmojifkggjaaMarkKit
import Derived.Test.YtdokmojifkggjaaBytMath
import Derived.Test.YtdokmojifkggjaaRowWalks
namespace Go.Proofs.Ytdokmojifkggjaa
open Go.RowKit
set_option linter.unusedVariables false
set_option maxRecDepth 20000

/-- The first m signs of a row with the sign 1 behind it and then 0. -/
def padL (s : ByteArray) (m : Nat) : List Int := (List.range m).map fun j => 48 + bitF s j
theorem padL_length (s : ByteArray) (m : Nat) : (padL s m).length = m := by simp [padL]
theorem padL_succ (s : ByteArray) (m : Nat) : padL s (m + 1) = padL s m ++ [48 + bitF s m] := by simp [padL, List.range_succ]
theorem padL_row (s : ByteArray) : (s.data.toList.map fun c => Value.int .u8 (c.toNat : Int)) = (padL s s.size).map (Value.int .u8) := by
  apply List.ext_getElem
  · simp [padL]
  · intro j h1 h2
    have hj : j < s.size := by simpa using h1
    simp only [padL, List.getElem_map, List.getElem_range]
    rw [bitF_in s j hj, ← bAt_eq s j hj]
    have : s.data.toList[j]'(by simpa using h1) = s[j] := rfl
    rw [this, Int.add_comm, Int.sub_add_cancel]
def octH (b : Nat → Int) (q : Nat) : Nat → Int
  | 0 => 0
  | k + 1 => 2 * octH b q k + b (8 * q + k)
theorem octH_full (b : Nat → Int) (q : Nat) : octH b q 8 = oct b q := by
  simp only [octH, oct, Nat.add_zero]; omega
theorem octH_bd {b : Nat → Int} (h : Bits b) (q : Nat) : ∀ k, k ≤ 8 → 0 ≤ octH b q k ∧ octH b q k < 2 ^ k
  | 0, _ => by simp [octH]
  | k + 1, hk => by
    have ih := octH_bd h q k (by omega)
    have hb := h.bd (8 * q + k)
    rw [octH, Int.pow_succ]
    omega
theorem octH_le {b : Nat → Int} (h : Bits b) (q k : Nat) (hk : k ≤ 8) : 0 ≤ octH b q k ∧ octH b q k ≤ 255 := by
  have h1 := octH_bd h q k hk
  have h2 : (2 : Int) ^ k ≤ 256 := by
    have := Nat.pow_le_pow_right (n := 2) (by decide) hk
    have e : ((2 ^ k : Nat) : Int) ≤ ((2 ^ 8 : Nat) : Int) := Int.ofNat_le.2 this
    simpa using e
  omega

set_option maxHeartbeats 1600000 in
theorem specBytes (s : ByteArray) (w : World) (hr : rowB s = true) (h4 : (s.size : Int) ≤ 400000) :
    Calls Try.prog 11 #[.string s] w fun e w' => e = .returned (.string (strOfNums (byL s))) ∧ Below w.heap.size w w' := by
  obtain ⟨i0, hi0, hz0, hz1, hz2⟩ := info_parts infoF
  have HR : Hid (rowB s = true) := hr
  have HB : Hid (Bits (bitF s)) := bitF_bits s hr
  clear hr
  obtain ⟨cap0, w1, hcv, hown0, hgr0⟩ := bytes_mark w s (by unfold maxLen; omega)
  rw [padL_row] at hown0
  have hs1 := hgr0.size
  have hb1 : Below w.heap.size w w1 := (Below.refl _ _).grown hgr0 (Nat.le_refl _) (fun j hj => by cases hj)
  have HE : Hid (bitF s s.size = 1) := bitF_end s
  go_enter Try.func11, Try.ntmps11
  go_wp2_with (at_builtin; refine wpList_append_mark _ (by rfl) _ _ 29 (by rfl) w.heap.size 5 i0 (.int .u8 0) 1 Try.underlying29 hi0 hz0 hz1 hz2 rfl _ s.size _ (by rfl) (hown0.alloc _) ⟨w1.heap.size, 0, none⟩ 1 1 [.int .u8 49] (by rfl) (by rfl) (World.news_of_block (cs := #[.int .u8 49]) (t := 5) (fr := (0, 0)) (heap_alloc_new w1 _)) (by simp [Value.oneCell']) (by unfold maxLen; omega) (by omega) (by simp; omega) ?_; intro g1 c1 w2 hown1 hgrow1)
  have hown2 : OwnM w2 w.heap.size 5 (.slice (some ⟨g1, 0, none⟩) (s.size + 1) c1) (s.size + 1) ((padL s (s.size + 1)).map (Value.int .u8)) := by
    rw [padL_succ, HE.out, List.map_append]; exact hown1
  have hb2 : Below w.heap.size w w2 := (hb1.alloc hb1.size _).grown hgrow1 (by simp; omega) (fun j hj => (hown0.lt j hj).1)
  clear hown1 hgrow1 hown0 hgr0 hcv hb1
  obtain ⟨Q, hQ⟩ : ∃ Q, Q = s.size / 8 + 1 := ⟨_, rfl⟩
  have hQ1 : (s.size : Int) + 1 ≤ 8 * (Q : Int) := by omega
  have hQ2 : 8 * (Q : Int) ≤ (s.size : Int) + 8 := by omega
  have HQ : Hid (Q = s.size / 8 + 1) := hQ
  clear hQ
  go_loopw [3] (fun v wr => ∃ (m g c : Nat), s.size + 1 ≤ m ∧ m ≤ 8 * Q ∧ v = .slice (some ⟨g, 0, none⟩) m c ∧ OwnM wr w.heap.size 5 v m ((padL s m).map (Value.int .u8)) ∧ Below w.heap.size w wr)
    (fun v _ => 8 * Q - (match v with | .slice _ n _ => n | _ => 0))
  case atStart => exact ⟨s.size + 1, g1, c1, Nat.le_refl _, by omega, rfl, hown2, hb2⟩
  case round =>
    obtain ⟨m, g, c, hm1, hm2, rfl, hown, hb⟩ := hrel
    clear hown2 hb2
    by_cases hm : m % 8 = 0
    · obtain rfl : m = 8 * Q := by omega
      have hd : (((8 * Q : Nat) : Int) % 8 != 0) = false := by simp
      have hd' : ((8 * (Q : Int)) % 8 != 0) = false := by simp
      clear hm hm1 hm2
      go_wp2
      revert wr
      intro w5 hb5 hown5
      have hown0 : (w5.alloc (.cells #[] 5)).ownsRow w5.heap.size 5 1 (.slice (some ⟨w5.heap.size, 0, none⟩) 0 0) 0 (((List.range 0).map (oct (bitF s))).map (Value.int .u8)) := World.ownsRow_made w5 #[] 0 (Nat.le_refl _) (by unfold maxLen; omega) rfl
      have hM0 := hown5.alloc (.cells #[] 5)
      have hB0 : Below w5.heap.size w5 (w5.alloc (.cells #[] 5)) := (Below.refl _ _).alloc (Nat.le_refl _) _
      have hg5 : g < w5.heap.size := (hown5.lt g rfl).2
      have hs5 := hb5.size
      go_loopw [4, 5] (fun v i wr => ∃ q : Nat, q ≤ Q ∧ i = .int .i64 (8 * (q : Int)) ∧ wr.ownsRow w5.heap.size 5 1 v q (((List.range q).map (oct (bitF s))).map (Value.int .u8)) ∧ OwnM wr w.heap.size 5 (.slice (some ⟨g, 0, none⟩) (8 * Q) c) (8 * Q) ((padL s (8 * Q)).map (Value.int .u8)) ∧ Below w5.heap.size w5 wr)
        (fun _ i _ => 8 * Q - (intOf i).toNat)
      case atStart => exact ⟨0, Nat.zero_le _, rfl, hown0, hM0, hB0⟩
      case round =>
        obtain ⟨q, hq, rfl, hownq, hMq, hbq⟩ := hrel
        clear hown0 hM0 hB0 hown5
        revert wr
        intro wq hownq hMq hbq
        by_cases hlt : q < Q
        · have hlt' : 8 * (q : Int) < 8 * (Q : Int) := by omega
          go_wp2
          go_loopw [6, 7] (fun x k wk => ∃ j : Nat, j ≤ 8 ∧ k = .int .i64 (j : Int) ∧ x = .int .i64 (octH (bitF s) q j) ∧ wk = wq)
            (fun _ k _ => 8 - (intOf k).toNat)
          case atStart => exact ⟨0, Nat.zero_le _, rfl, rfl, rfl⟩
          case round =>
            obtain ⟨j, hj, rfl, rfl, rfl⟩ := hrel
            have hbd := octH_le HB.out q j hj
            by_cases hjl : j < 8
            · have HS : Hid (octH (bitF s) q (j + 1) = 2 * octH (bitF s) q j + bitF s (8 * q + j)) := rfl
              have hbit := HB.out.bd (8 * q + j)
              have hcell : wr.cell? ⟨g, 8 * q + j, none⟩ = some (.int .u8 (48 + bitF s (8 * q + j))) := by
                rw [hMq.cellAt (8 * q + j) (by omega)]
                simp [padL, show 8 * q + j < 8 * Q by omega]
              generalize octH (bitF s) q j = x at *
              generalize bitF s (8 * q + j) = y at *
              have hjl' : (j : Int) < 8 := by omega
              go_wp2
              go_roundw
              case rel => exact ⟨j + 1, by omega, by go_num, by rw [HS.out]; congr 1; omega, trivial⟩
              case measure => simp [intOf]; omega
            · obtain rfl : j = 8 := by omega
              rw [octH_full] at hbd ⊢
              obtain ⟨hbd0, hbd1⟩ := hbd
              go_wp2_with (at_builtin; refine wpList_append_lies _ (by rfl) _ _ 29 (by rfl) w5.heap.size 5 i0 (.int .u8 0) 1 1 Try.underlying29 hi0 hz0 hz1 hz2 rfl (by omega) u4 q _ (by rfl) (hownq.alloc _) ⟨wr.heap.size, 0, none⟩ 1 1 [.int .u8 (oct (bitF s) q)] (by rfl) (by rfl) (World.news_of_block (cs := #[.int .u8 (oct (bitF s) q)]) (t := 5) (fr := (0, 0)) (heap_alloc_new wr _)) (by simp [Value.oneCell']) (by omega) (by unfold maxLen; omega) (by omega) (by have := hbq.size; simp; omega) (wr.heap.size + 1) (by simp) ?_; intro gg cap w6 hown6 hgrow6 hat6 hlt6)
              have hown7 : w6.ownsRow w5.heap.size 5 1 (.slice (some ⟨gg, 0, none⟩) (q + 1) cap) (q + 1) (((List.range (q + 1)).map (oct (bitF s))).map (Value.int .u8)) := by
                rw [List.range_succ, List.map_append, List.map_append]; exact hown6
              have hM7 : OwnM w6 w.heap.size 5 (.slice (some ⟨g, 0, none⟩) (8 * Q) c) (8 * Q) ((padL s (8 * Q)).map (Value.int .u8)) :=
                (hMq.alloc _).kept hgrow6 (.inl fun h => by have := (hownq.lt g h.symm).1; omega)
              have hb7 : Below w5.heap.size w5 w6 := (hbq.alloc hbq.size _).grown hgrow6 (by have := hbq.size; simp; omega) (fun j hj => (hownq.lt j hj).1)
              clear hown6 hgrow6 hat6 hlt6
              go_roundw
              case rel => exact ⟨q + 1, by omega, by go_num, hown7, hM7, hb7⟩
              case measure => simp [intOf]; omega
        · obtain rfl : q = Q := by omega
          have hconv := convF hownq
          go_wp2
          go_ret
          exact ⟨by unfold byL; rw [HQ.out]; rfl, hb5.trans (hbq.mono hs5)⟩
    · have hd : ((m : Int) % 8 != 0) = true := by simp; omega
      have HZ : Hid (48 + bitF s m = 48) := by
        show _ = _
        rw [bitF_out s m (by omega)]; rfl
      go_wp2_with (at_builtin; refine wpList_append_mark _ (by rfl) _ _ 29 (by rfl) w.heap.size 5 i0 (.int .u8 0) 1 Try.underlying29 hi0 hz0 hz1 hz2 rfl (.slice (some ⟨g, 0, none⟩) m c) m _ (by rfl) (hown.alloc _) ⟨wr.heap.size, 0, none⟩ 1 1 [.int .u8 48] (by rfl) (by rfl) (World.news_of_block (cs := #[.int .u8 48]) (t := 5) (fr := (0, 0)) (heap_alloc_new wr _)) (by simp [Value.oneCell']) (by unfold maxLen; omega) (by omega) (by have := hb.size; simp; omega) ?_; intro g3 c3 w3 hown3 hgrow3)
      have hown4 : OwnM w3 w.heap.size 5 (.slice (some ⟨g3, 0, none⟩) (m + 1) c3) (m + 1) ((padL s (m + 1)).map (Value.int .u8)) := by
        rw [padL_succ, HZ.out, List.map_append]; exact hown3
      have hb3 : Below w.heap.size w w3 := (hb.alloc hb.size _).grown hgrow3 (by have := hb.size; simp; omega) (fun j hj => (hown.lt j hj).1)
      go_roundw
      case rel => exact ⟨m + 1, g3, c3, by omega, by omega, rfl, hown4, hb3⟩
      case measure => simp; omega

end Go.Proofs.Ytdokmojifkggjaa
