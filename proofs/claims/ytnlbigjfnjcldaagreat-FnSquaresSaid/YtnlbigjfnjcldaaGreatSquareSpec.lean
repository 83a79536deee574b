/-
  The row of a square, of the specification: the walks of spec.l15Row and spec.SquareRow; SquareSize of both.
-/
import Derived.Test.YtnlbigjfnjcldaaGreatSquareRows
namespace Go.Proofs.YtnlbigjfnjcldaaGreat
open Go.RowKit
set_option linter.unusedVariables false
set_option maxRecDepth 20000


set_option maxHeartbeats 3200000 in
theorem l15Row_skip (md dx dy : Int) (a : Option Addr) (c : Nat) (xs : List Int) (k : Bool) (q : Int) (g x : Bool) (w : World) :
    Calls Tryz.prog 39 #[sqV 0 md dx dy a xs.length c, conV k q g x] w fun e w' => e = .returned (.string (kdS k 0 ++ tlS g x 0 md dx dy xs)) ∧ Below w.heap.size w w' := by
  have B0 := (Blk.new w (sqC 0 md dx dy a xs.length c) 34).alloc (.cells #[.bool k, .int .i64 q, .bool g, .bool x] 26)
  have B1 := Blk.new (w.alloc (.cells (sqC 0 md dx dy a xs.length c) 34)) #[.bool k, .int .i64 q, .bool g, .bool x] 26
  have hb := (Below.refl w.heap.size w).alloc (Nat.le_refl _) (.cells (sqC 0 md dx dy a xs.length c) 34)
  have hb0 := hb.alloc hb.size (.cells #[.bool k, .int .i64 q, .bool g, .bool x] 26)
  rw [World.size_alloc] at B1
  have CK : Hid (∀ w', Calls Tryz.prog 56 #[.int .i64 0] w' fun e w'' => e = .returned (.string (ueS 0)) ∧ Below w'.heap.size w' w'') := fun w' => specUe 0 w' (by decide) (by decide)
  have HD0 : Hid (kdS false 0 = ueS 0) := rfl
  have HD1 : Hid (kdS true 0 = ⟨#[]⟩) := rfl
  have HDS : Hid ((kdS k 0).size ≤ 40) := kdS_le k (by decide) (by decide)
  clear hb
  generalize ueS 0 = U at *
  have HT : Hid (kdS k 0 ++ tlS g x 0 md dx dy xs = kdS k 0) := by
    show _ = _
    rw [tlS_0]
    apply ByteArray.ext
    simp
  rw [HT.out]
  obtain ⟨D, HD⟩ : ∃ D, Hid (kdS k 0 = D) := ⟨_, rfl⟩
  rw [HD.out] at HDS ⊢
  generalize xs.length = n at *
  have hbs := hb0.size
  go_enter Tryz.func39, Tryz.ntmps39
  go_upto_if 8 with fail
  generalize World.alloc (World.alloc w _) _ = V at *
  have BK : Hid (∀ w', Below V.heap.size V w' → (w'.cell? ⟨w.heap.size, 0, none⟩ = some (.int .i64 0) ∧ w'.cell? ⟨w.heap.size, 1, none⟩ = some (.int .i64 md) ∧ w'.cell? ⟨w.heap.size, 2, none⟩ = some (.int .i64 dx) ∧ w'.cell? ⟨w.heap.size, 3, none⟩ = some (.int .i64 dy) ∧ w'.cell? ⟨w.heap.size, 4, none⟩ = some (.slice a n c)) ∧ (w'.cell? ⟨w.heap.size + 1, 0, none⟩ = some (.bool k) ∧ w'.cell? ⟨w.heap.size + 1, 1, none⟩ = some (.int .i64 q) ∧ w'.cell? ⟨w.heap.size + 1, 2, none⟩ = some (.bool g) ∧ w'.cell? ⟨w.heap.size + 1, 3, none⟩ = some (.bool x))) := fun w' h => ⟨(B0.below h B0.lt).five.1, (B1.below h B1.lt).four.1⟩
  clear B0 B1
  obtain ⟨⟨x0, x1, x2, x3, x4⟩, y0, y1, y2, y3⟩ := BK.out V (Below.refl _ _)
  go_cut [5] from 9 to 11 (fun u wc => u = .string D ∧ Below V.heap.size V wc)
  case first =>
    cases k
    · go_wp2_with (go_at_call 56; refine (CK.out _).mono ?_; rintro e w1 ⟨rfl, c1⟩)
      go_meet
      exact ⟨by rw [← HD.out, HD0.out], c1⟩
    · go_wp2_with fail
      go_meet
      exact ⟨by rw [← HD.out, HD1.out], Below.refl _ _⟩
  case rest =>
  obtain ⟨rfl, hc⟩ := hcut
  generalize wc = w1 at *
  have hb1 := hb0.trans (hc.mono hbs)
  clear x0 x1 x2 x3 x4 y0 y1 y2 y3 HD HD0 HD1 CK
  obtain ⟨⟨x0, x1, x2, x3, x4⟩, y0, y1, y2, y3⟩ := BK.out w1 hc
  go_wp2
  go_ret
  exact ⟨rfl, hb1⟩

set_option maxHeartbeats 3200000 in
theorem l15Row_move (md dx dy : Int) (a : Option Addr) (c : Nat) (xs : List Int) (k : Bool) (q : Int) (g x : Bool) (w : World) (h : Ints w a xs) (hy : sqB 5000 xs = true) (hl : xs.length ≤ maxLen) (hcap : xs.length ≤ c) (h0 : -16 ≤ dx ∧ dx ≤ 16) (h1 : -16 ≤ dy ∧ dy ≤ 16) :
    Calls Tryz.prog 39 #[sqV 1 md dx dy a xs.length c, conV k q g x] w fun e w' => e = .returned (.string (kdS k 1 ++ tlS g x 1 md dx dy xs)) ∧ Below w.heap.size w w' := by
  have B0 := (Blk.new w (sqC 1 md dx dy a xs.length c) 34).alloc (.cells #[.bool k, .int .i64 q, .bool g, .bool x] 26)
  have B1 := Blk.new (w.alloc (.cells (sqC 1 md dx dy a xs.length c) 34)) #[.bool k, .int .i64 q, .bool g, .bool x] 26
  have hb := (Below.refl w.heap.size w).alloc (Nat.le_refl _) (.cells (sqC 1 md dx dy a xs.length c) 34)
  have hb0 := hb.alloc hb.size (.cells #[.bool k, .int .i64 q, .bool g, .bool x] 26)
  rw [World.size_alloc] at B1
  have CK : Hid (∀ w', Calls Tryz.prog 56 #[.int .i64 1] w' fun e w'' => e = .returned (.string (ueS 1)) ∧ Below w'.heap.size w' w'') := fun w' => specUe 1 w' (by decide) (by decide)
  have HD0 : Hid (kdS false 1 = ueS 1) := rfl
  have HD1 : Hid (kdS true 1 = ⟨#[]⟩) := rfl
  have HDS : Hid ((kdS k 1).size ≤ 40) := kdS_le k (by decide) (by decide)
  have CV : Hid (∀ w', Below w.heap.size w w' → Calls Tryz.prog 58 #[.slice a xs.length c, conV k q g x] w' fun e w'' => e = .returned (.string (lvS g x xs)) ∧ Below w'.heap.size w' w'') := fun w' hq => by
    obtain ⟨h64, hin⟩ := sqB_iff.1 hy
    obtain ⟨gb, o, rfl, _⟩ := ints_addr h h64
    rw [h64] at hcap ⊢
    rw [← lvS_if]
    exact specRow_yes gb o c hcap xs k q g x w' (h.below hq (Nat.le_refl _)) h64 hin
  have CX : Hid (∀ w', Calls Tryz.prog 57 #[.int .i64 dx] w' fun e w'' => e = .returned (.string (ueS (seF dx))) ∧ Below w'.heap.size w' w'') := fun w' => specSe dx w' (by omega)
  have CY : Hid (∀ w', Calls Tryz.prog 57 #[.int .i64 dy] w' fun e w'' => e = .returned (.string (ueS (seF dy))) ∧ Below w'.heap.size w' w'') := fun w' => specSe dy w' (by omega)
  have u0 := ueS_le (seF_16 h0).1 (by have := (seF_16 h0).2; omega)
  have u2 := ueS_le (seF_16 h1).1 (by have := (seF_16 h1).2; omega)
  have u1 := lvS_le g x xs
  have HT : Hid (kdS k 1 ++ tlS g x 1 md dx dy xs = kdS k 1 ++ ueS (seF dx) ++ ueS (seF dy) ++ lvS g x xs) := by
    show _ = _
    rw [tlS_1]
    simp only [ByteArray.append_assoc]
  rw [HT.out]
  clear h hy hl hcap hb HT
  generalize ueS (seF dx) = X at *
  generalize ueS (seF dy) = Y at *
  generalize lvS g x xs = L at *
  generalize ueS 1 = U at *
  obtain ⟨D, HD⟩ : ∃ D, Hid (kdS k 1 = D) := ⟨_, rfl⟩
  rw [HD.out] at HDS ⊢
  generalize xs.length = n at *
  have hbs := hb0.size
  go_enter Tryz.func39, Tryz.ntmps39
  go_upto_if 8 with fail
  generalize World.alloc (World.alloc w _) _ = V at *
  have BK : Hid (∀ w', Below V.heap.size V w' → (w'.cell? ⟨w.heap.size, 0, none⟩ = some (.int .i64 1) ∧ w'.cell? ⟨w.heap.size, 1, none⟩ = some (.int .i64 md) ∧ w'.cell? ⟨w.heap.size, 2, none⟩ = some (.int .i64 dx) ∧ w'.cell? ⟨w.heap.size, 3, none⟩ = some (.int .i64 dy) ∧ w'.cell? ⟨w.heap.size, 4, none⟩ = some (.slice a n c)) ∧ (w'.cell? ⟨w.heap.size + 1, 0, none⟩ = some (.bool k) ∧ w'.cell? ⟨w.heap.size + 1, 1, none⟩ = some (.int .i64 q) ∧ w'.cell? ⟨w.heap.size + 1, 2, none⟩ = some (.bool g) ∧ w'.cell? ⟨w.heap.size + 1, 3, none⟩ = some (.bool x))) := fun w' h => ⟨(B0.below h B0.lt).five.1, (B1.below h B1.lt).four.1⟩
  clear B0 B1
  obtain ⟨⟨x0, x1, x2, x3, x4⟩, y0, y1, y2, y3⟩ := BK.out V (Below.refl _ _)
  go_cut [5] from 9 to 11 (fun u wc => u = .string D ∧ Below V.heap.size V wc)
  case first =>
    cases k
    · go_wp2_with (go_at_call 56; refine (CK.out _).mono ?_; rintro e w1 ⟨rfl, c1⟩)
      go_meet
      exact ⟨by rw [← HD.out, HD0.out], c1⟩
    · go_wp2_with fail
      go_meet
      exact ⟨by rw [← HD.out, HD1.out], Below.refl _ _⟩
  case rest =>
  obtain ⟨rfl, hc⟩ := hcut
  generalize wc = w1 at *
  have hb1 := hb0.trans (hc.mono hbs)
  clear x0 x1 x2 x3 x4 y0 y1 y2 y3 HD HD0 HD1 CK
  obtain ⟨⟨x0, x1, x2, x3, x4⟩, y0, y1, y2, y3⟩ := BK.out w1 hc
  have t0 : ¬ 9223372036854775807 < D.size + X.size := by have := HDS.out; omega
  have t1 : ¬ 9223372036854775807 < D.size + X.size + Y.size := by have := HDS.out; omega
  have t2 : ¬ 9223372036854775807 < D.size + X.size + Y.size + L.size := by have := HDS.out; omega
  clear u0 u1 u2 h0 h1 HDS
  go_wp2_with fail
  have hbw : Below w.heap.size w w1.drew := hb1.drew
  have hbv : Below V.heap.size V w1.drew := hc.drew
  clear hb1 hc
  go_region_held3 (fun w' => (w'.cell? ⟨w.heap.size, 0, none⟩ = some (.int .i64 1) ∧ w'.cell? ⟨w.heap.size, 1, none⟩ = some (.int .i64 md) ∧ w'.cell? ⟨w.heap.size, 2, none⟩ = some (.int .i64 dx) ∧ w'.cell? ⟨w.heap.size, 3, none⟩ = some (.int .i64 dy) ∧ w'.cell? ⟨w.heap.size, 4, none⟩ = some (.slice a n c)) ∧ (w'.cell? ⟨w.heap.size + 1, 0, none⟩ = some (.bool k) ∧ w'.cell? ⟨w.heap.size + 1, 1, none⟩ = some (.int .i64 q) ∧ w'.cell? ⟨w.heap.size + 1, 2, none⟩ = some (.bool g) ∧ w'.cell? ⟨w.heap.size + 1, 3, none⟩ = some (.bool x)))
    (first | (with_reducible exact hS) | go_keep)
    (first
      | (go_at_call 57; (with_reducible refine Calls.mono (CX.out _) ?_); rintro e wA ⟨rfl, hcA⟩; have hbv := hbv.trans (hcA.mono hbv.size); have hbw := hbw.trans (hcA.mono hbw.size); have hS := BK.out wA hbv; clear hcA)
      | (go_at_call 57; (with_reducible refine Calls.mono (CY.out _) ?_); rintro e wA ⟨rfl, hcA⟩; have hbv := hbv.trans (hcA.mono hbv.size); have hbw := hbw.trans (hcA.mono hbw.size); have hS := BK.out wA hbv; clear hcA)
      | (go_at_call 58; (with_reducible refine Calls.mono (CV.out _ ?hb) ?_); (case hb => exact hbw); rintro e wA ⟨rfl, hcA⟩; have hbv := hbv.trans (hcA.mono hbv.size); have hbw := hbw.trans (hcA.mono hbw.size); have hS := BK.out wA hbv; clear hcA))
  all_goals
    clear hS
    go_wp2
    go_ret
    exact ⟨rfl, hbw⟩

set_option maxHeartbeats 3200000 in
theorem l15Row_guess (md dx dy : Int) (a : Option Addr) (c : Nat) (xs : List Int) (k : Bool) (q : Int) (g x : Bool) (w : World) (h : Ints w a xs) (hy : sqB 5000 xs = true) (hl : xs.length ≤ maxLen) (hcap : xs.length ≤ c) (h0 : 0 ≤ md ∧ md ≤ 3) :
    Calls Tryz.prog 39 #[sqV 2 md dx dy a xs.length c, conV k q g x] w fun e w' => e = .returned (.string (kdS k 2 ++ tlS g x 2 md dx dy xs)) ∧ Below w.heap.size w w' := by
  have B0 := (Blk.new w (sqC 2 md dx dy a xs.length c) 34).alloc (.cells #[.bool k, .int .i64 q, .bool g, .bool x] 26)
  have B1 := Blk.new (w.alloc (.cells (sqC 2 md dx dy a xs.length c) 34)) #[.bool k, .int .i64 q, .bool g, .bool x] 26
  have hb := (Below.refl w.heap.size w).alloc (Nat.le_refl _) (.cells (sqC 2 md dx dy a xs.length c) 34)
  have hb0 := hb.alloc hb.size (.cells #[.bool k, .int .i64 q, .bool g, .bool x] 26)
  rw [World.size_alloc] at B1
  have CK : Hid (∀ w', Calls Tryz.prog 56 #[.int .i64 2] w' fun e w'' => e = .returned (.string (ueS 2)) ∧ Below w'.heap.size w' w'') := fun w' => specUe 2 w' (by decide) (by decide)
  have HD0 : Hid (kdS false 2 = ueS 2) := rfl
  have HD1 : Hid (kdS true 2 = ⟨#[]⟩) := rfl
  have HDS : Hid ((kdS k 2).size ≤ 40) := kdS_le k (by decide) (by decide)
  have CV : Hid (∀ w', Below w.heap.size w w' → Calls Tryz.prog 58 #[.slice a xs.length c, conV k q g x] w' fun e w'' => e = .returned (.string (lvS g x xs)) ∧ Below w'.heap.size w' w'') := fun w' hq => by
    obtain ⟨h64, hin⟩ := sqB_iff.1 hy
    obtain ⟨gb, o, rfl, _⟩ := ints_addr h h64
    rw [h64] at hcap ⊢
    rw [← lvS_if]
    exact specRow_yes gb o c hcap xs k q g x w' (h.below hq (Nat.le_refl _)) h64 hin
  have CX : Hid (∀ w', Calls Tryz.prog 56 #[.int .i64 md] w' fun e w'' => e = .returned (.string (ueS md)) ∧ Below w'.heap.size w' w'') := fun w' => specUe md w' h0.1 (by omega)
  have u0 := ueS_le h0.1 (by omega : md ≤ 1000000)
  have u1 := lvS_le g x xs
  have HT : Hid (kdS k 2 ++ tlS g x 2 md dx dy xs = kdS k 2 ++ ueS md ++ lvS g x xs) := by
    show _ = _
    rw [tlS_2]
    simp only [ByteArray.append_assoc]
  rw [HT.out]
  clear h hy hl hcap hb HT h0
  generalize ueS md = X at *
  generalize lvS g x xs = L at *
  generalize ueS 2 = U at *
  obtain ⟨D, HD⟩ : ∃ D, Hid (kdS k 2 = D) := ⟨_, rfl⟩
  rw [HD.out] at HDS ⊢
  generalize xs.length = n at *
  have hbs := hb0.size
  go_enter Tryz.func39, Tryz.ntmps39
  go_upto_if 8 with fail
  generalize World.alloc (World.alloc w _) _ = V at *
  have BK : Hid (∀ w', Below V.heap.size V w' → (w'.cell? ⟨w.heap.size, 0, none⟩ = some (.int .i64 2) ∧ w'.cell? ⟨w.heap.size, 1, none⟩ = some (.int .i64 md) ∧ w'.cell? ⟨w.heap.size, 2, none⟩ = some (.int .i64 dx) ∧ w'.cell? ⟨w.heap.size, 3, none⟩ = some (.int .i64 dy) ∧ w'.cell? ⟨w.heap.size, 4, none⟩ = some (.slice a n c)) ∧ (w'.cell? ⟨w.heap.size + 1, 0, none⟩ = some (.bool k) ∧ w'.cell? ⟨w.heap.size + 1, 1, none⟩ = some (.int .i64 q) ∧ w'.cell? ⟨w.heap.size + 1, 2, none⟩ = some (.bool g) ∧ w'.cell? ⟨w.heap.size + 1, 3, none⟩ = some (.bool x))) := fun w' h => ⟨(B0.below h B0.lt).five.1, (B1.below h B1.lt).four.1⟩
  clear B0 B1
  obtain ⟨⟨x0, x1, x2, x3, x4⟩, y0, y1, y2, y3⟩ := BK.out V (Below.refl _ _)
  go_cut [5] from 9 to 11 (fun u wc => u = .string D ∧ Below V.heap.size V wc)
  case first =>
    cases k
    · go_wp2_with (go_at_call 56; refine (CK.out _).mono ?_; rintro e w1 ⟨rfl, c1⟩)
      go_meet
      exact ⟨by rw [← HD.out, HD0.out], c1⟩
    · go_wp2_with fail
      go_meet
      exact ⟨by rw [← HD.out, HD1.out], Below.refl _ _⟩
  case rest =>
  obtain ⟨rfl, hc⟩ := hcut
  generalize wc = w1 at *
  have hb1 := hb0.trans (hc.mono hbs)
  clear x0 x1 x2 x3 x4 y0 y1 y2 y3 HD HD0 HD1 CK
  obtain ⟨⟨x0, x1, x2, x3, x4⟩, y0, y1, y2, y3⟩ := BK.out w1 hc
  have t0 : ¬ 9223372036854775807 < D.size + X.size := by have := HDS.out; omega
  have t1 : ¬ 9223372036854775807 < D.size + X.size + L.size := by have := HDS.out; omega
  clear u0 u1 HDS
  go_wp2_with fail
  have hbw : Below w.heap.size w w1.drew := hb1.drew
  have hbv : Below V.heap.size V w1.drew := hc.drew
  clear hb1 hc
  go_region_held3 (fun w' => (w'.cell? ⟨w.heap.size, 0, none⟩ = some (.int .i64 2) ∧ w'.cell? ⟨w.heap.size, 1, none⟩ = some (.int .i64 md) ∧ w'.cell? ⟨w.heap.size, 2, none⟩ = some (.int .i64 dx) ∧ w'.cell? ⟨w.heap.size, 3, none⟩ = some (.int .i64 dy) ∧ w'.cell? ⟨w.heap.size, 4, none⟩ = some (.slice a n c)) ∧ (w'.cell? ⟨w.heap.size + 1, 0, none⟩ = some (.bool k) ∧ w'.cell? ⟨w.heap.size + 1, 1, none⟩ = some (.int .i64 q) ∧ w'.cell? ⟨w.heap.size + 1, 2, none⟩ = some (.bool g) ∧ w'.cell? ⟨w.heap.size + 1, 3, none⟩ = some (.bool x)))
    (first | (with_reducible exact hS) | go_keep)
    (first
      | (go_at_call 56; (with_reducible refine Calls.mono (CX.out _) ?_); rintro e wA ⟨rfl, hcA⟩; have hbv := hbv.trans (hcA.mono hbv.size); have hbw := hbw.trans (hcA.mono hbw.size); have hS := BK.out wA hbv; clear hcA)
      | (go_at_call 58; (with_reducible refine Calls.mono (CV.out _ ?hb) ?_); (case hb => exact hbw); rintro e wA ⟨rfl, hcA⟩; have hbv := hbv.trans (hcA.mono hbv.size); have hbw := hbw.trans (hcA.mono hbw.size); have hS := BK.out wA hbv; clear hcA))
  all_goals
    clear hS
    go_wp2
    go_ret
    exact ⟨rfl, hbw⟩

theorem specRowOf (kd md dx dy : Int) (a : Option Addr) (c : Nat) (xs : List Int) (k : Bool) (q : Int) (g x : Bool) (w : World) (h : Ints w a xs) (hl : xs.length ≤ maxLen) (hcap : xs.length ≤ c) (hy : sqOkB kd md dx dy xs = true) :
    Calls Tryz.prog 39 #[sqV kd md dx dy a xs.length c, conV k q g x] w fun e w' => e = .returned (.string (kdS k kd ++ tlS g x kd md dx dy xs)) ∧ Below w.heap.size w w' := by
  rcases sqOk_cases hy with ⟨rfl, _⟩ | ⟨rfl, _, h1, h2, h3⟩ | ⟨rfl, h1, _, _, h3⟩
  · exact l15Row_skip md dx dy a c xs k q g x w
  · exact l15Row_move md dx dy a c xs k q g x w h h3 hl hcap h1 h2
  · exact l15Row_guess md dx dy a c xs k q g x w h h3 hl hcap h1

set_option maxHeartbeats 1600000 in
theorem specSquareRow (kd md dx dy : Int) (a : Option Addr) (c : Nat) (xs : List Int) (k : Bool) (q : Int) (g x : Bool) (w : World) (h : Ints w a xs) (hl : xs.length ≤ maxLen) (hcap : xs.length ≤ c) :
    Calls Tryz.prog 16 #[sqV kd md dx dy a xs.length c, conV k q g x] w fun e w' => e = .returned (.tuple #[.string (srS k q g x kd md dx dy xs), .bool (srB k q g x kd md dx dy xs)]) ∧ Below w.heap.size w w' := by
  have B0 := (Blk.new w (sqC kd md dx dy a xs.length c) 34).alloc (.cells #[.bool k, .int .i64 q, .bool g, .bool x] 26)
  have B1 := Blk.new (w.alloc (.cells (sqC kd md dx dy a xs.length c) 34)) #[.bool k, .int .i64 q, .bool g, .bool x] 26
  have hb := (Below.refl w.heap.size w).alloc (Nat.le_refl _) (.cells (sqC kd md dx dy a xs.length c) 34)
  have hb0 := hb.alloc hb.size (.cells #[.bool k, .int .i64 q, .bool g, .bool x] 26)
  rw [World.size_alloc] at B1
  have CR : Hid (∀ w', Below w.heap.size w w' → Calls Tryz.prog 37 #[sqV kd md dx dy a xs.length c] w' fun e w'' => e = .returned (.bool (sqOkB kd md dx dy xs)) ∧ Below w'.heap.size w' w'') := fun w' hb => specSquareOk kd md dx dy a c xs w' (h.below hb (Nat.le_refl _)) hl
  have CC : Hid (∀ w', Calls Tryz.prog 38 #[conV k q g x] w' fun e w'' => e = .returned (.bool (parB q g x)) ∧ Below w'.heap.size w' w'') := fun w' => specCondOk k q g x w'
  have CW : Hid (sqOkB kd md dx dy xs = true → ∀ w', Below w.heap.size w w' → Calls Tryz.prog 39 #[sqV kd md dx dy a xs.length c, conV k q g x] w' fun e w'' => e = .returned (.string (kdS k kd ++ tlS g x kd md dx dy xs)) ∧ Below w'.heap.size w' w'') := fun hy w' hb => specRowOf kd md dx dy a c xs k q g x w' (h.below hb (Nat.le_refl _)) hl hcap hy
  have HJ : Hid (srB k q g x kd md dx dy xs = (sqOkB kd md dx dy xs && parB q g x && (!k || decide (kd = 2)))) := rfl
  have HY : Hid (srB k q g x kd md dx dy xs = true → srS k q g x kd md dx dy xs = kdS k kd ++ tlS g x kd md dx dy xs) := fun h => srS_yes h
  have HZ : Hid (srB k q g x kd md dx dy xs = false → srS k q g x kd md dx dy xs = ⟨#[]⟩) := fun h => srS_no h
  clear h hl hcap hb
  generalize srS k q g x kd md dx dy xs = S at *
  generalize srB k q g x kd md dx dy xs = J at *
  generalize sqOkB kd md dx dy xs = R at *
  generalize parB q g x = P at *
  generalize kdS k kd ++ tlS g x kd md dx dy xs = T at *
  generalize xs.length = n at *
  go_enter Tryz.func16, Tryz.ntmps16
  go_wp2_with fail
  generalize World.alloc (World.alloc w _) _ = V at *
  have hbs := hb0.size
  have BK : Hid (∀ w', Below V.heap.size V w' → (w'.cell? ⟨w.heap.size, 0, none⟩ = some (.int .i64 kd) ∧ w'.cell? ⟨w.heap.size, 1, none⟩ = some (.int .i64 md) ∧ w'.cell? ⟨w.heap.size, 2, none⟩ = some (.int .i64 dx) ∧ w'.cell? ⟨w.heap.size, 3, none⟩ = some (.int .i64 dy) ∧ w'.cell? ⟨w.heap.size, 4, none⟩ = some (.slice a n c)) ∧ (w'.cell? ⟨w.heap.size + 1, 0, none⟩ = some (.bool k) ∧ w'.cell? ⟨w.heap.size + 1, 1, none⟩ = some (.int .i64 q) ∧ w'.cell? ⟨w.heap.size + 1, 2, none⟩ = some (.bool g) ∧ w'.cell? ⟨w.heap.size + 1, 3, none⟩ = some (.bool x))) := fun w' h => ⟨(B0.below h B0.lt).five.1, (B1.below h B1.lt).four.1⟩
  clear B0 B1
  refine (CR.out V hb0).mono ?_
  rintro e w1 ⟨rfl, c1⟩
  have hb1 := hb0.trans (c1.mono hbs)
  obtain ⟨⟨x0, x1, x2, x3, x4⟩, y0, y1, y2, y3⟩ := BK.out w1 c1
  cases R
  case false =>
    have HE : Hid (J = false) := by show _ = _; rw [HJ.out]; rfl
    obtain rfl : S = ⟨#[]⟩ := HZ.out HE.out
    go_wp2
    go_ret2
    exact ⟨by rw [HE.out]; rfl, hb1⟩
  case true =>
  go_wp2_with fail
  refine (CC.out w1).mono ?_
  rintro e w2 ⟨rfl, c2⟩
  have hb2 := hb1.trans (c2.mono hb1.size)
  have e2 := c1.trans (c2.mono c1.size)
  clear x0 x1 x2 x3 x4 y0 y1 y2 y3
  obtain ⟨⟨x0, x1, x2, x3, x4⟩, y0, y1, y2, y3⟩ := BK.out w2 e2
  cases P
  case false =>
    have HE : Hid (J = false) := by show _ = _; rw [HJ.out]; rfl
    obtain rfl : S = ⟨#[]⟩ := HZ.out HE.out
    go_wp2
    go_ret2
    exact ⟨by rw [HE.out]; rfl, hb2⟩
  case true =>
  have CW3 : Hid (∀ w', Below w.heap.size w w' → Calls Tryz.prog 39 #[sqV kd md dx dy a n c, conV k q g x] w' fun e w'' => e = .returned (.string T) ∧ Below w'.heap.size w' w'') := CW.out (by trivial)
  clear CW
  cases k
  case false =>
    have HE : Hid (J = true) := by show _ = _; rw [HJ.out]; rfl
    obtain rfl : S = T := HY.out HE.out
    go_wp2_with (go_at_call 39; refine (CW3.out _ hb2).mono ?_; rintro e w3 ⟨rfl, c3⟩)
    go_ret2
    exact ⟨by rw [HE.out]; rfl, hb2.trans (c3.mono hb2.size)⟩
  case true =>
    by_cases h2 : kd = 2
    · subst h2
      have HE : Hid (J = true) := by show _ = _; rw [HJ.out]; rfl
      obtain rfl : S = T := HY.out HE.out
      go_wp2_with (go_at_call 39; refine (CW3.out _ hb2).mono ?_; rintro e w3 ⟨rfl, c3⟩)
      go_ret2
      exact ⟨by rw [HE.out]; rfl, hb2.trans (c3.mono hb2.size)⟩
    · have HF : Hid (decide (kd = 2) = false) := by show _ = _; simpa using h2
      have HE : Hid (J = false) := by show _ = _; rw [HJ.out, HF.out]; rfl
      obtain rfl : S = ⟨#[]⟩ := HZ.out HE.out
      have q3 : (kd != 2) = true := by simpa using h2
      have q4 : (kd == 2) = false := by rw [beq_eq_false_iff_ne]; exact h2
      go_wp2
      go_ret2
      exact ⟨by rw [HE.out]; rfl, hb2⟩

set_option maxHeartbeats 800000 in
theorem implSquareSize (kd md dx dy : Int) (a : Option Addr) (c : Nat) (xs : List Int) (k : Bool) (q : Int) (g x : Bool) (w : World) (h : Ints w a xs) (hl : xs.length ≤ maxLen) (hcap : xs.length ≤ c) :
    Calls Tryz.prog 13 #[sqV kd md dx dy a xs.length c, conV k q g x] w fun e w' => e = .returned (.int .i64 ((srS k q g x kd md dx dy xs).size : Int)) ∧ Below w.heap.size w w' := by
  have hb := (Below.refl w.heap.size w).alloc (Nat.le_refl _) (.cells (sqC kd md dx dy a xs.length c) 34)
  have hb0 := hb.alloc hb.size (.cells #[.bool k, .int .i64 q, .bool g, .bool x] 26)
  have CR : Hid (∀ w', Below w.heap.size w w' → Calls Tryz.prog 10 #[sqV kd md dx dy a xs.length c, conV k q g x] w' fun e w'' => e = .returned (.tuple #[.string (srS k q g x kd md dx dy xs), .bool (srB k q g x kd md dx dy xs)]) ∧ Below w'.heap.size w' w'') := fun w' hb => implSquareRow kd md dx dy a c xs k q g x w' (h.below hb (Nat.le_refl _)) hl hcap
  clear h hl hcap hb
  generalize srS k q g x kd md dx dy xs = S at *
  generalize srB k q g x kd md dx dy xs = J at *
  generalize xs.length = n at *
  go_enter Tryz.func13, Tryz.ntmps13
  go_wp2_with (go_at_call 10; refine (CR.out _ hb0).mono ?_; rintro e w1 ⟨rfl, c1⟩)
  go_ret
  exact ⟨rfl, hb0.trans (c1.mono hb0.size)⟩

set_option maxHeartbeats 800000 in
theorem specSquareSize (kd md dx dy : Int) (a : Option Addr) (c : Nat) (xs : List Int) (k : Bool) (q : Int) (g x : Bool) (w : World) (h : Ints w a xs) (hl : xs.length ≤ maxLen) (hcap : xs.length ≤ c) :
    Calls Tryz.prog 23 #[sqV kd md dx dy a xs.length c, conV k q g x] w fun e w' => e = .returned (.int .i64 ((srS k q g x kd md dx dy xs).size : Int)) ∧ Below w.heap.size w w' := by
  have hb := (Below.refl w.heap.size w).alloc (Nat.le_refl _) (.cells (sqC kd md dx dy a xs.length c) 34)
  have hb0 := hb.alloc hb.size (.cells #[.bool k, .int .i64 q, .bool g, .bool x] 26)
  have CR : Hid (∀ w', Below w.heap.size w w' → Calls Tryz.prog 16 #[sqV kd md dx dy a xs.length c, conV k q g x] w' fun e w'' => e = .returned (.tuple #[.string (srS k q g x kd md dx dy xs), .bool (srB k q g x kd md dx dy xs)]) ∧ Below w'.heap.size w' w'') := fun w' hb => specSquareRow kd md dx dy a c xs k q g x w' (h.below hb (Nat.le_refl _)) hl hcap
  clear h hl hcap hb
  generalize srS k q g x kd md dx dy xs = S at *
  generalize srB k q g x kd md dx dy xs = J at *
  generalize xs.length = n at *
  go_enter Tryz.func23, Tryz.ntmps23
  go_wp2_with (go_at_call 16; refine (CR.out _ hb0).mono ?_; rintro e w1 ⟨rfl, c1⟩)
  go_ret
  exact ⟨rfl, hb0.trans (c1.mono hb0.size)⟩
end Go.Proofs.YtnlbigjfnjcldaaGreat
