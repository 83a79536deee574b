/-
  The rows of sets: the walks of impl.listRow, spec.l05List, SeqRow of both.
-/
import Derived.Test.YtafcdncljcbdcaaDoorFaultKit
import Derived.Test.YtafcdncljcbdcaaDoorFixImpl
import Derived.Test.YtafcdncljcbdcaaDoorFixSpec
import Derived.Test.YtafcdncljcbdcaaDoorCountTops
namespace Go.Proofs.YtafcdncljcbdcaaDoor
open Go.RowKit
set_option linter.unusedVariables false
set_option maxRecDepth 20000

/-- The rows of the first k numbers behind that of how many there are. -/
def listT (xs : List Int) : Nat → ByteArray
  | 0 => ueS xs.length
  | k + 1 => listT xs k ++ ueS (xs.getD k 0)
def listS (xs : List Int) : ByteArray := listT xs xs.length
theorem ueS_small (n : Int) (h0 : 0 ≤ n) (h1 : n ≤ 1000000) : (ueS n).size ≤ 50 := by
  rw [ueS_size n h0 h1]
  have := wid_pow (n + 1) (by omega) (by omega)
  omega
theorem listT_size (xs : List Int) (hl : xs.length ≤ 4) (hg : goodT xs xs.length) : ∀ k : Nat, k ≤ xs.length → (listT xs k).size ≤ 50 + 50 * k
  | 0, _ => by have := ueS_small xs.length (by omega) (by omega); simp [listT]; omega
  | k + 1, h => by
    have h1 := listT_size xs hl hg k (by omega)
    obtain ⟨g0, g1⟩ := hg k (by omega)
    have h2 := ueS_small (xs.getD k 0) (by omega) (by omega)
    rw [listT, ByteArray.size_append]; omega
theorem listS_size (xs : List Int) (hl : xs.length ≤ 4) (hg : goodT xs xs.length) : (listS xs).size ≤ 250 := by
  have := listT_size xs hl hg xs.length (Nat.le_refl _)
  unfold listS; omega

set_option maxHeartbeats 800000 in
theorem implList (a : Option Addr) (cap : Nat) (xs : List Int) (w : World) (ht : Ints w a xs) (hl : xs.length ≤ 4) (hg : goodT xs xs.length) :
    Calls Tryd.prog 32 #[.slice a xs.length cap] w fun e w' => e = .returned (.string (listS xs)) ∧ Below w.heap.size w w' := by
  have HT : Hid (Ints w a xs ∧ goodT xs xs.length) := ⟨ht, hg⟩
  have HL : Hid (xs.length ≤ 4) := hl
  clear ht hg
  have hl' : (xs.length : Int) ≤ 4 := by omega
  go_enter Tryd.func32, Tryd.ntmps32
  go_wp2_with (go_at_call 30; refine (implUeRow _ _ ⟨by omega, by omega⟩).mono ?_; rintro e w1 ⟨rfl, hb1⟩)
  go_loopw [3, 17] (fun v i wr => ∃ k : Nat, k ≤ xs.length ∧ i = .int .i64 k ∧ v = .string (listT xs k) ∧ Below w.heap.size w wr)
    (fun _ i _ => xs.length - (intOf i).toNat)
  case atStart => exact ⟨0, Nat.zero_le _, rfl, rfl, hb1⟩
  case round =>
    obtain ⟨k, hk, rfl, rfl, hb⟩ := hrel
    clear hb1
    by_cases hlt : k < xs.length
    · rcases HT.out.1 with h | ⟨b, off, rfl, hgb, hc⟩
      · rw [h] at hlt; simp at hlt
      have d1 : wr.cell? ⟨b, off + k, none⟩ = some (.int .i64 (xs.getD k 0)) := (hb.cell (p := ⟨b, off + k, none⟩) hgb).trans (hc k hlt)
      obtain ⟨g0, g1⟩ := HT.out.2 k hlt
      have z1 := listT_size xs HL.out HT.out.2 k hk
      have z2 := ueS_small (xs.getD k 0) (by omega) (by omega)
      have HS : Hid (listT xs (k + 1) = listT xs k ++ ueS (xs.getD k 0)) := rfl
      have hlim : ¬ 9223372036854775807 < (listT xs k).size + (ueS (xs.getD k 0)).size := by omega
      clear hc z1 z2
      have l0 : (0 : Int) ≤ (k : Int) := by omega
      have l1 : (k : Int) < (xs.length : Int) := by omega
      generalize xs.getD k 0 = x at *
      go_wp2_with (go_at_call 30; refine (implUeRow _ _ ⟨by omega, by omega⟩).mono ?_; rintro e w2 ⟨rfl, hb2⟩)
      go_roundw
      case rel => exact ⟨k + 1, by omega, by go_num, by rw [HS.out], hb.trans (hb2.mono hb.size)⟩
      case measure => simp [intOf]; omega
    · obtain rfl : k = xs.length := by omega
      go_wp2
      go_ret
      exact ⟨rfl, hb⟩

set_option maxHeartbeats 800000 in
theorem specList (a : Option Addr) (cap : Nat) (xs : List Int) (w : World) (ht : Ints w a xs) (hl : xs.length ≤ 4) (hg : goodT xs xs.length) :
    Calls Tryd.prog 66 #[.slice a xs.length cap] w fun e w' => e = .returned (.string (listS xs)) ∧ Below w.heap.size w w' := by
  have HT : Hid (Ints w a xs ∧ goodT xs xs.length) := ⟨ht, hg⟩
  have HL : Hid (xs.length ≤ 4) := hl
  clear ht hg
  have hl' : (xs.length : Int) ≤ 4 := by omega
  go_enter Tryd.func66, Tryd.ntmps66
  go_wp2_with (go_at_call 64; refine (specUe _ _ (by omega) (by omega)).mono ?_; rintro e w1 ⟨rfl, hb1⟩)
  go_loopw [3, 4] (fun v i wr => ∃ k : Nat, k ≤ xs.length ∧ i = .int .i64 k ∧ v = .string (listT xs k) ∧ Below w.heap.size w wr)
    (fun _ i _ => xs.length - (intOf i).toNat)
  case atStart => exact ⟨0, Nat.zero_le _, rfl, rfl, hb1⟩
  case round =>
    obtain ⟨k, hk, rfl, rfl, hb⟩ := hrel
    clear hb1
    by_cases hlt : k < xs.length
    · rcases HT.out.1 with h | ⟨b, off, rfl, hgb, hc⟩
      · rw [h] at hlt; simp at hlt
      have d1 : wr.cell? ⟨b, off + k, none⟩ = some (.int .i64 (xs.getD k 0)) := (hb.cell (p := ⟨b, off + k, none⟩) hgb).trans (hc k hlt)
      obtain ⟨g0, g1⟩ := HT.out.2 k hlt
      have z1 := listT_size xs HL.out HT.out.2 k hk
      have z2 := ueS_small (xs.getD k 0) (by omega) (by omega)
      have HS : Hid (listT xs (k + 1) = listT xs k ++ ueS (xs.getD k 0)) := rfl
      have hlim : ¬ 9223372036854775807 < (listT xs k).size + (ueS (xs.getD k 0)).size := by omega
      clear hc z1 z2
      have l0 : (0 : Int) ≤ (k : Int) := by omega
      have l1 : (k : Int) < (xs.length : Int) := by omega
      generalize xs.getD k 0 = x at *
      go_wp2_with (go_at_call 64; refine (specUe _ _ (by omega) (by omega)).mono ?_; rintro e w2 ⟨rfl, hb2⟩)
      go_roundw
      case rel => exact ⟨k + 1, by omega, by go_num, by rw [HS.out], hb.trans (hb2.mono hb.size)⟩
      case measure => simp [intOf]; omega
    · obtain rfl : k = xs.length := by omega
      go_wp2
      go_ret
      exact ⟨rfl, hb⟩

/-- The row of a set. -/
def seqS (l b : Int) (xs ys : List Int) : ByteArray := ueS l ++ strOfNums (fixL b 4) ++ listS xs ++ listS ys
/-- What a right set has. -/
theorem seqB_parts {l b : Int} {xs ys : List Int} (h : seqB l b xs ys = true) : (1 ≤ l ∧ l ≤ 3) ∧ (3 ≤ b ∧ b ≤ 8) ∧ (xs.length ≤ 4 ∧ goodT xs xs.length ∧ 1 ≤ xs.length) ∧ (ys.length ≤ 4 ∧ goodT ys ys.length ∧ 1 ≤ ys.length) := by
  obtain ⟨h1, h2, h3, h4⟩ := seqB_true h
  obtain ⟨p1, p2⟩ := sqI_pos h1
  exact ⟨seqB_lvl h, ⟨h3, h4⟩, sideI_pos p1, sideI_pos p2⟩

set_option maxHeartbeats 1600000 in
theorem implSeqRow (l b : Int) (a1 a2 : Option Addr) (c1 c2 : Nat) (xs ys : List Int) (w : World) (hg : ErrT w) (h1 : Ints w a1 xs) (h2 : Ints w a2 ys) (m1 : xs.length ≤ maxLen) (m2 : ys.length ≤ maxLen) (hs : seqB l b xs ys = true) :
    Calls Tryd.prog 10 #[.agg #[.int .i64 l, .int .i64 b, .slice a1 xs.length c1, .slice a2 ys.length c2]] w fun e w' => e = .returned (.tuple #[.string (seqS l b xs ys), .bool true]) ∧ Below w.heap.size w w' := by
  have H : Hid (Ints w a1 xs ∧ Ints w a2 ys ∧ ErrT w) := ⟨h1, h2, hg⟩
  obtain ⟨⟨v0, v1⟩, ⟨b0, b1⟩, ⟨x1, x2, _⟩, ⟨y1, y2, _⟩⟩ := seqB_parts hs
  have hz0 : (strOfNums (fixL b 4)).size = 4 := by rw [strOfNums_size, fixL_length]
  have hz1 := ueS_small l (by omega) (by omega)
  have hz2 := listS_size xs x1 x2
  have hz3 := listS_size ys y1 y2
  have HS : Hid (seqS l b xs ys = ueS l ++ strOfNums (fixL b 4) ++ listS xs ++ listS ys) := rfl
  have CO : Hid (∀ w', Below w.heap.size w w' → Calls Tryd.prog 18 #[.agg #[.int .i64 l, .int .i64 b, .slice a1 xs.length c1, .slice a2 ys.length c2]] w' fun e w'' => e = .returned (.bool true) ∧ Below w'.heap.size w' w'') := fun w' hb => by
    have := implSeqOk l b a1 a2 c1 c2 xs ys w' (hg.below hb (Nat.le_refl _)) (h1.below hb (Nat.le_refl _)) (h2.below hb (Nat.le_refl _)) m1 m2
    rwa [hs] at this
  have CU : Hid (∀ w', Calls Tryd.prog 30 #[.int .i64 l] w' fun e w'' => e = .returned (.tuple #[.string (ueS l), .bool true]) ∧ Below w'.heap.size w' w'') := fun w' => implUeRow l w' ⟨by omega, by omega⟩
  have CF : Hid (∀ w', Calls Tryd.prog 31 #[.int .i64 b, .int .i64 4] w' fun e w'' => e = .returned (.tuple #[.string (strOfNums (fixL b 4)), .bool true]) ∧ Below w'.heap.size w' w'') := fun w' => implFix b 4 w' (by omega) (by omega) (by omega)
  have CL : Hid (∀ a c zs w', (a = a1 ∧ zs = xs ∨ a = a2 ∧ zs = ys) → Below w.heap.size w w' → Calls Tryd.prog 32 #[.slice a zs.length c] w' fun e w'' => e = .returned (.string (listS zs)) ∧ Below w'.heap.size w' w'') := fun a c zs w' hh hb => by
    rcases hh with ⟨rfl, rfl⟩ | ⟨rfl, rfl⟩
    · exact implList _ c _ w' (h1.below hb (Nat.le_refl _)) x1 x2
    · exact implList _ c _ w' (h2.below hb (Nat.le_refl _)) y1 y2
  clear h1 h2 hg hs x2 y2 m1 m2 H
  generalize seqS l b xs ys = S at *
  generalize strOfNums (fixL b 4) = s0 at *
  generalize ueS l = s1 at *
  generalize listS = F at *
  have l1 : ¬ 9223372036854775807 < s1.size + s0.size := by omega
  have l2 : ¬ 9223372036854775807 < s1.size + s0.size + (F xs).size := by omega
  have l3 : ¬ 9223372036854775807 < s1.size + s0.size + (F xs).size + (F ys).size := by omega
  clear hz0 hz1 hz2 hz3
  go_enter Tryd.func10, Tryd.ntmps10
  go_wp2_with fail
  generalize hW : World.alloc w _ = W
  have B0 : Blk W w.heap.size #[.int .i64 l, .int .i64 b, .slice a1 xs.length c1, .slice a2 ys.length c2] 26 := by rw [← hW]; exact Blk.new w _ _
  have hb0 : Below w.heap.size w W := by rw [← hW]; exact (Below.refl _ _).alloc (Nat.le_refl _) _
  clear hW
  refine (CO.out W hb0).mono ?_
  rintro e w1 ⟨rfl, hc⟩
  have hb1 := hb0.trans (hc.mono hb0.size)
  have B1 := B0.below hc B0.lt
  obtain ⟨⟨x0, x1, x2, x3⟩, _⟩ := B1.four
  clear hc hb0 B0
  go_wp2_with fail
  refine (CU.out w1).mono ?_
  rintro e w2 ⟨rfl, hc⟩
  have hb2 := hb1.trans (hc.mono hb1.size)
  have B2 := B1.below hc B1.lt
  clear x0 x1 x2 x3
  obtain ⟨⟨x0, x1, x2, x3⟩, _⟩ := B2.four
  clear hc hb1 B1
  go_wp2_with fail
  refine (CF.out w2).mono ?_
  rintro e w3 ⟨rfl, hc⟩
  have hb3 := hb2.trans (hc.mono hb2.size)
  have B3 := B2.below hc B2.lt
  clear x0 x1 x2 x3
  obtain ⟨⟨x0, x1, x2, x3⟩, _⟩ := B3.four
  have HB3 : Hid (Blk _ _ _ _) := B3.drew
  clear hc hb2 B2 B3
  go_wp2_with fail
  go_region_held3 (fun w' => w'.cell? ⟨w.heap.size, 2, none⟩ = some (.slice a1 xs.length c1) ∧ w'.cell? ⟨w.heap.size, 3, none⟩ = some (.slice a2 ys.length c2))
    (first | go_keep | exact (HB3.out.below hc4 HB3.out.lt).four.1.2.2 | exact ((HB3.out.below hc4 HB3.out.lt).below hc5 (HB3.out.below hc4 HB3.out.lt).lt).four.1.2.2)
    ((go_at_call 32; refine (CL.out _ _ _ _ (by first | exact .inl ⟨rfl, rfl⟩ | exact .inr ⟨rfl, rfl⟩) (by first | exact hb3.drew | exact hb3.drew.trans (hc4.mono hb3.size))).mono ?_; first | (have hx := hc4; rintro e w5 ⟨rfl, hc5⟩; clear hx) | (rintro e w4 ⟨rfl, hc4⟩)))
  all_goals
    go_wp2
    go_ret2
    exact ⟨by rw [HS.out]; rfl, (hb3.drew.trans (hc4.mono hb3.size)).trans (hc5.mono (Nat.le_trans hb3.size hc4.size))⟩

theorem implSeqRow_no (l b : Int) (a1 a2 : Option Addr) (c1 c2 : Nat) (xs ys : List Int) (w : World) (hg : ErrT w) (h1 : Ints w a1 xs) (h2 : Ints w a2 ys) (m1 : xs.length ≤ maxLen) (m2 : ys.length ≤ maxLen) (hs : seqB l b xs ys = false) :
    Calls Tryd.prog 10 #[.agg #[.int .i64 l, .int .i64 b, .slice a1 xs.length c1, .slice a2 ys.length c2]] w fun e w' => e = .returned (.tuple #[.string ⟨#[]⟩, .bool false]) ∧ Below w.heap.size w w' := by
  have CO : Hid (∀ w', Below w.heap.size w w' → Calls Tryd.prog 18 #[.agg #[.int .i64 l, .int .i64 b, .slice a1 xs.length c1, .slice a2 ys.length c2]] w' fun e w'' => e = .returned (.bool false) ∧ Below w'.heap.size w' w'') := fun w' hb => by
    have := implSeqOk l b a1 a2 c1 c2 xs ys w' (hg.below hb (Nat.le_refl _)) (h1.below hb (Nat.le_refl _)) (h2.below hb (Nat.le_refl _)) m1 m2
    rwa [hs] at this
  clear h1 h2 hg hs
  go_enter Tryd.func10, Tryd.ntmps10
  go_wp2_with fail
  generalize hW : World.alloc w _ = W
  have hb0 : Below w.heap.size w W := by rw [← hW]; exact (Below.refl _ _).alloc (Nat.le_refl _) _
  clear hW
  refine (CO.out W hb0).mono ?_
  rintro e w1 ⟨rfl, hc⟩
  have hb1 := hb0.trans (hc.mono hb0.size)
  clear hc hb0
  go_wp2
  go_ret2
  exact ⟨rfl, hb1⟩

set_option maxHeartbeats 1600000 in
theorem specSeq (l b : Int) (a1 a2 : Option Addr) (c1 c2 : Nat) (xs ys : List Int) (w : World) (h1 : Ints w a1 xs) (h2 : Ints w a2 ys) (hs : seqB l b xs ys = true) :
    Calls Tryd.prog 50 #[.agg #[.int .i64 l, .int .i64 b, .slice a1 xs.length c1, .slice a2 ys.length c2]] w fun e w' => e = .returned (.string (seqS l b xs ys)) ∧ Below w.heap.size w w' := by
  obtain ⟨⟨v0, v1⟩, ⟨b0, b1⟩, ⟨x1, x2, _⟩, ⟨y1, y2, _⟩⟩ := seqB_parts hs
  have hz0 : (strOfNums (fixL b 4)).size = 4 := by rw [strOfNums_size, fixL_length]
  have hz1 := ueS_small l (by omega) (by omega)
  have hz2 := listS_size xs x1 x2
  have hz3 := listS_size ys y1 y2
  have HS : Hid (seqS l b xs ys = ueS l ++ strOfNums (fixL b 4) ++ listS xs ++ listS ys) := rfl
  have CU : Hid (∀ w', Calls Tryd.prog 64 #[.int .i64 l] w' fun e w'' => e = .returned (.string (ueS l)) ∧ Below w'.heap.size w' w'') := fun w' => specUe l w' (by omega) (by omega)
  have CF : Hid (∀ w', Calls Tryd.prog 65 #[.int .i64 b, .int .i64 4] w' fun e w'' => e = .returned (.string (strOfNums (fixL b 4))) ∧ Below w'.heap.size w' w'') := fun w' => specFix b 4 w' (by omega) (by omega) (by omega)
  have CL : Hid (∀ a c zs w', (a = a1 ∧ zs = xs ∨ a = a2 ∧ zs = ys) → Below w.heap.size w w' → Calls Tryd.prog 66 #[.slice a zs.length c] w' fun e w'' => e = .returned (.string (listS zs)) ∧ Below w'.heap.size w' w'') := fun a c zs w' hh hb => by
    rcases hh with ⟨rfl, rfl⟩ | ⟨rfl, rfl⟩
    · exact specList _ c _ w' (h1.below hb (Nat.le_refl _)) x1 x2
    · exact specList _ c _ w' (h2.below hb (Nat.le_refl _)) y1 y2
  clear h1 h2 hs x2 y2
  generalize seqS l b xs ys = S at *
  generalize strOfNums (fixL b 4) = s0 at *
  generalize ueS l = s1 at *
  generalize listS = F at *
  have l1 : ¬ 9223372036854775807 < s1.size + s0.size := by omega
  have l2 : ¬ 9223372036854775807 < s1.size + s0.size + (F xs).size := by omega
  have l3 : ¬ 9223372036854775807 < s1.size + s0.size + (F xs).size + (F ys).size := by omega
  clear hz0 hz1 hz2 hz3
  have BA : Hid (Blk _ _ _ _) := (Blk.new w #[.int .i64 l, .int .i64 b, .slice a1 xs.length c1, .slice a2 ys.length c2] 26).drew
  have hbA := ((Below.refl w.heap.size w).alloc (Nat.le_refl _) (.cells #[.int .i64 l, .int .i64 b, .slice a1 xs.length c1, .slice a2 ys.length c2] 26)).drew
  go_enter Tryd.func50, Tryd.ntmps50
  go_wp2_with fail
  go_region_held3 (fun w' => w'.cell? ⟨w.heap.size, 0, none⟩ = some (.int .i64 l) ∧ w'.cell? ⟨w.heap.size, 1, none⟩ = some (.int .i64 b) ∧ w'.cell? ⟨w.heap.size, 2, none⟩ = some (.slice a1 xs.length c1) ∧ w'.cell? ⟨w.heap.size, 3, none⟩ = some (.slice a2 ys.length c2))
    (first | go_keep | exact (BA.out.below hs1 BA.out.lt).four.1 | exact (BA.out.below hs2 BA.out.lt).four.1 | exact (BA.out.below hs3 BA.out.lt).four.1 | exact (BA.out.below hs4 BA.out.lt).four.1)
    (first
      | (go_at_call 64; refine (CU.out _).mono ?_; rintro e w1 ⟨rfl, hc1⟩; have hb1 := hbA.trans (hc1.mono hbA.size); have hs1 := hc1)
      | (go_at_call 65; refine (CF.out _).mono ?_; rintro e w2 ⟨rfl, hc2⟩; have hb2 := hb1.trans (hc2.mono hb1.size); have hs2 := hs1.trans (hc2.mono hs1.size))
      | (go_at_call 66; refine (CL.out _ _ _ _ (by first | exact .inl ⟨rfl, rfl⟩ | exact .inr ⟨rfl, rfl⟩) (by first | exact hb2 | exact hb3)).mono ?_; first | (have hx := hb3; rintro e w4 ⟨rfl, hc4⟩; clear hx; have hb4 := hb3.trans (hc4.mono hb3.size); have hs4 := hs3.trans (hc4.mono hs3.size)) | (rintro e w3 ⟨rfl, hc3⟩; have hb3 := hb2.trans (hc3.mono hb2.size); have hs3 := hs2.trans (hc3.mono hs2.size))))
  all_goals
    go_wp2
    go_ret
    exact ⟨by rw [HS.out]; rfl, hb4⟩

set_option maxHeartbeats 800000 in
theorem specSeqRow (l b : Int) (a1 a2 : Option Addr) (c1 c2 : Nat) (xs ys : List Int) (w : World) (h1 : Ints w a1 xs) (h2 : Ints w a2 ys) (m1 : xs.length ≤ maxLen) (m2 : ys.length ≤ maxLen) :
    Calls Tryd.prog 23 #[.agg #[.int .i64 l, .int .i64 b, .slice a1 xs.length c1, .slice a2 ys.length c2]] w fun e w' => e = .returned (if seqB l b xs ys = true then .tuple #[.string (seqS l b xs ys), .bool true] else .tuple #[.string ⟨#[]⟩, .bool false]) ∧ Below w.heap.size w w' := by
  have CO : Hid (∀ w', Below w.heap.size w w' → Calls Tryd.prog 16 #[.agg #[.int .i64 l, .int .i64 b, .slice a1 xs.length c1, .slice a2 ys.length c2]] w' fun e w'' => e = .returned (.bool (seqB l b xs ys)) ∧ Below w'.heap.size w' w'') := fun w' hb =>
    specSeqOk l b a1 a2 c1 c2 xs ys w' (h1.below hb (Nat.le_refl _)) (h2.below hb (Nat.le_refl _)) m1 m2
  cases hs : seqB l b xs ys
  · rw [hs] at CO
    rw [if_neg (by simp)]
    clear h1 h2
    go_enter Tryd.func23, Tryd.ntmps23
    go_wp2_with fail
    generalize hW : World.alloc w _ = W
    have hb0 : Below w.heap.size w W := by rw [← hW]; exact (Below.refl _ _).alloc (Nat.le_refl _) _
    clear hW
    refine (CO.out W hb0).mono ?_
    rintro e w1 ⟨rfl, hc⟩
    have hb1 := hb0.trans (hc.mono hb0.size)
    clear hc hb0
    go_wp2
    go_ret2
    exact ⟨rfl, hb1⟩
  · rw [hs] at CO
    rw [if_pos rfl]
    have CS : Hid (∀ w', Below w.heap.size w w' → Calls Tryd.prog 50 #[.agg #[.int .i64 l, .int .i64 b, .slice a1 xs.length c1, .slice a2 ys.length c2]] w' fun e w'' => e = .returned (.string (seqS l b xs ys)) ∧ Below w'.heap.size w' w'') := fun w' hb => specSeq l b a1 a2 c1 c2 xs ys w' (h1.below hb (Nat.le_refl _)) (h2.below hb (Nat.le_refl _)) hs
    clear h1 h2 hs
    go_enter Tryd.func23, Tryd.ntmps23
    go_wp2_with fail
    generalize hW : World.alloc w _ = W
    have B0 : Blk W w.heap.size #[.int .i64 l, .int .i64 b, .slice a1 xs.length c1, .slice a2 ys.length c2] 26 := by rw [← hW]; exact Blk.new w _ _
    have hb0 : Below w.heap.size w W := by rw [← hW]; exact (Below.refl _ _).alloc (Nat.le_refl _) _
    clear hW
    refine (CO.out W hb0).mono ?_
    rintro e w1 ⟨rfl, hc⟩
    have hb1 := hb0.trans (hc.mono hb0.size)
    obtain ⟨⟨x0, x1, x2, x3⟩, _⟩ := (B0.below hc B0.lt).four
    clear hc hb0 B0
    go_wp2_with fail
    refine (CS.out w1 hb1).mono ?_
    rintro e w2 ⟨rfl, hc2⟩
    go_wp2
    go_ret2
    exact ⟨rfl, hb1.trans (hc2.mono hb1.size)⟩
end Go.Proofs.YtafcdncljcbdcaaDoor
