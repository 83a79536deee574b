/-
  The row of a square: the walks of impl.SquareRow and of spec.SquareRow, with their parts.
-/
import Derived.Test.YtnlbigjfnjcldaaGreatSquareOks
import Derived.Test.YtnlbigjfnjcldaaGreatSquareMath
import Derived.Deep.RegionHeld3
import Derived.Deep.CutRange
namespace Go.Proofs.YtnlbigjfnjcldaaGreat
open Go.RowKit
set_option linter.unusedVariables false
set_option maxRecDepth 20000

/-- What stands of a kind in the row. -/
def kdS (key : Bool) (kd : Int) : ByteArray := if key = true then ⟨#[]⟩ else ueS kd
/-- What stands behind the kind. -/
def tlS (g x : Bool) (kd md dx dy : Int) (xs : List Int) : ByteArray := if kd = 1 then ueS (seF dx) ++ ueS (seF dy) ++ lvS g x xs else if kd = 2 then ueS md ++ lvS g x xs else ⟨#[]⟩
theorem sqS_parts (key g x : Bool) (kd md dx dy : Int) (xs : List Int) : sqS key g x kd md dx dy xs = kdS key kd ++ tlS g x kd md dx dy xs := rfl
/-- Whether a square has a row. -/
def srB (k : Bool) (q : Int) (g x : Bool) (kd md dx dy : Int) (xs : List Int) : Bool := sqOkB kd md dx dy xs && parB q g x && (!k || decide (kd = 2))
def srS (k : Bool) (q : Int) (g x : Bool) (kd md dx dy : Int) (xs : List Int) : ByteArray := if srB k q g x kd md dx dy xs = true then sqS k g x kd md dx dy xs else ⟨#[]⟩
theorem srS_yes {k : Bool} {q : Int} {g x : Bool} {kd md dx dy : Int} {xs : List Int} (h : srB k q g x kd md dx dy xs = true) : srS k q g x kd md dx dy xs = kdS k kd ++ tlS g x kd md dx dy xs := if_pos h
theorem srS_no {k : Bool} {q : Int} {g x : Bool} {kd md dx dy : Int} {xs : List Int} (h : srB k q g x kd md dx dy xs = false) : srS k q g x kd md dx dy xs = ⟨#[]⟩ := if_neg (by rw [h]; decide)

theorem lvS_le (g x : Bool) (xs : List Int) : (lvS g x xs).size ≤ 20800 := by
  unfold lvS
  rcases lr_cases g x with ⟨h1, h2, _⟩ | ⟨h1, h2, _⟩
  · rw [h1, h2]; exact accS_le 16 xs 4
  · rw [h1, h2]; have := accS_le 64 xs 1; omega
theorem lvS_if (g x : Bool) (xs : List Int) : (if (g || x) = true then accS 64 xs 1 else accS 16 xs 4) = lvS g x xs := by
  unfold lvS lrN lrC
  split <;> rfl
theorem lvS_lr {q : Int} {g x : Bool} {xs : List Int} (h : lrB q g x xs = true) : lrS q g x xs = lvS g x xs := by
  rw [lrS_yes h, lvS_if]
theorem ueS_le {n : Int} (h0 : 0 ≤ n) (h1 : n ≤ 1000000) : (ueS n).size ≤ 40 := by
  have := ueS_size n h0 h1
  have := (wid_pow (n + 1) (by omega) (by omega)).2.1
  omega
theorem kdS_le (k : Bool) {kd : Int} (h0 : 0 ≤ kd) (h1 : kd ≤ 2) : (kdS k kd).size ≤ 40 := by
  unfold kdS
  split
  · exact Nat.zero_le _
  · exact ueS_le h0 (by omega)
theorem levels_row {a : Option Addr} {c : Nat} {xs : List Int} {k : Bool} {q : Int} {g x : Bool} (w : World) (h : Ints w a xs) (hy : sqB 5000 xs = true) (hp : parB q g x = true) (hc : xs.length ≤ c) :
    Calls Tryz.prog 122 #[.slice a xs.length c, conV k q g x] w fun e w' => e = .returned (.tuple #[.string (lvS g x xs), .bool true]) ∧ Below w.heap.size w w' := by
  have hb : lrB q g x xs = true := by unfold lrB; rw [hp, hy]; rfl
  have := implLevelsRow a c xs k q g x w h (by rw [(sqB_iff.1 hy).1]; decide) hc
  rw [hb, lvS_lr hb] at this
  exact this

theorem lets_any (k : Bool) (q : Int) (g x : Bool) (kd : Int) (w : World) :
    Calls Tryz.prog 31 #[conV k q g x, .int .i64 kd] w fun e w' => e = .returned (.bool (!k || decide (kd = 2))) ∧ Below w.heap.size w w' := by
  have hb := (Below.refl w.heap.size w).alloc (Nat.le_refl _) (.cells #[.bool k, .int .i64 q, .bool g, .bool x] 26)
  cases k
  case false =>
    go_enter Tryz.func31, Tryz.ntmps31
    go_wp2
    go_ret
    exact ⟨rfl, hb⟩
  case true =>
    by_cases h : kd = 2
    · subst h
      go_enter Tryz.func31, Tryz.ntmps31
      go_wp2
      go_ret
      exact ⟨rfl, hb⟩
    · have q3 : (kd == 2) = false := by rw [beq_eq_false_iff_ne]; exact h
      have HF : Hid (decide (kd = 2) = false) := by show _ = _; simpa using h
      go_enter Tryz.func31, Tryz.ntmps31
      go_wp2
      go_ret
      exact ⟨by rw [HF.out]; rfl, hb⟩

theorem kindRow_any (k : Bool) (q : Int) (g x : Bool) (kd : Int) (w : World) (h0 : 0 ≤ kd) (h1 : kd ≤ 2) :
    Calls Tryz.prog 32 #[.int .i64 kd, conV k q g x] w fun e w' => e = .returned (.string (kdS k kd)) ∧ Below w.heap.size w w' := by
  have hb := (Below.refl w.heap.size w).alloc (Nat.le_refl _) (.cells #[.bool k, .int .i64 q, .bool g, .bool x] 26)
  have CU : Hid (∀ w', Calls Tryz.prog 52 #[.int .i64 kd] w' fun e w'' => e = .returned (.tuple #[.string (ueS kd), .bool true]) ∧ Below w'.heap.size w' w'') := fun w' => implUeRow kd w' (by omega)
  cases k
  case false =>
    go_enter Tryz.func32, Tryz.ntmps32
    go_wp2_with (go_at_call 52; refine (CU.out _).mono ?_; rintro e w1 ⟨rfl, hc⟩)
    go_ret
    exact ⟨rfl, hb.trans (hc.mono hb.size)⟩
  case true =>
    go_enter Tryz.func32, Tryz.ntmps32
    go_wp2
    go_ret
    exact ⟨rfl, hb⟩

theorem row_skip (kd md dx dy : Int) (a : Option Addr) (n c : Nat) (k : Bool) (q : Int) (g x : Bool) (w : World) :
    Calls Tryz.prog 114 #[sqV kd md dx dy a n c, conV k q g x] w fun e w' => e = .returned (.string ⟨#[]⟩) ∧ Below w.heap.size w w' := by
  have hb := (Below.refl w.heap.size w).alloc (Nat.le_refl _) (.cells (sqC kd md dx dy a n c) 78)
  have hb2 := hb.alloc hb.size (.cells #[.bool k, .int .i64 q, .bool g, .bool x] 26)
  go_enter Tryz.func114, Tryz.ntmps114
  go_wp2
  go_ret
  exact ⟨rfl, by go_grown⟩

set_option maxHeartbeats 800000 in
theorem row_guess (kd md dx dy : Int) (a : Option Addr) (c : Nat) (xs : List Int) (k : Bool) (q : Int) (g x : Bool) (w : World) (h : Ints w a xs) (hy : sqB 5000 xs = true) (hp : parB q g x = true) (hcap : xs.length ≤ c) (h0 : 0 ≤ md) (h1 : md ≤ 3) :
    Calls Tryz.prog 186 #[sqV kd md dx dy a xs.length c, conV k q g x] w fun e w' => e = .returned (.string (ueS md ++ lvS g x xs)) ∧ Below w.heap.size w w' := by
  have B0 := (Blk.new w (sqC kd md dx dy a xs.length c) 80).alloc (.cells #[.bool k, .int .i64 q, .bool g, .bool x] 26)
  have B1 := Blk.new (w.alloc (.cells (sqC kd md dx dy a xs.length c) 80)) #[.bool k, .int .i64 q, .bool g, .bool x] 26
  have hb := (Below.refl w.heap.size w).alloc (Nat.le_refl _) (.cells (sqC kd md dx dy a xs.length c) 80)
  have hb0 := hb.alloc hb.size (.cells #[.bool k, .int .i64 q, .bool g, .bool x] 26)
  rw [World.size_alloc] at B1
  have CU : Hid (∀ w', Calls Tryz.prog 52 #[.int .i64 md] w' fun e w'' => e = .returned (.tuple #[.string (ueS md), .bool true]) ∧ Below w'.heap.size w' w'') := fun w' => implUeRow md w' (by omega)
  have CV : Hid (∀ w', Below w.heap.size w w' → Calls Tryz.prog 122 #[.slice a xs.length c, conV k q g x] w' fun e w'' => e = .returned (.tuple #[.string (lvS g x xs), .bool true]) ∧ Below w'.heap.size w' w'') := fun w' hb => levels_row w' (h.below hb (Nat.le_refl _)) hy hp hcap
  have u0 := ueS_le h0 (by omega : md ≤ 1000000)
  have u1 := lvS_le g x xs
  clear h hy hp hb
  generalize ueS md = U at *
  generalize lvS g x xs = L at *
  generalize xs.length = n at *
  have t0 : ¬ 9223372036854775807 < U.size + L.size := by omega
  clear u0 u1 h0 h1 hcap
  go_enter Tryz.func186, Tryz.ntmps186
  go_wp2_with fail
  generalize World.alloc (World.alloc w _) _ = V at *
  have BK : Hid (∀ w', Below V.heap.size V w' → w'.cell? ⟨w.heap.size, 4, none⟩ = some (.slice a n c) ∧ (w'.cell? ⟨w.heap.size + 1, 0, none⟩ = some (.bool k) ∧ w'.cell? ⟨w.heap.size + 1, 1, none⟩ = some (.int .i64 q) ∧ w'.cell? ⟨w.heap.size + 1, 2, none⟩ = some (.bool g) ∧ w'.cell? ⟨w.heap.size + 1, 3, none⟩ = some (.bool x))) := fun w' h => ⟨(B0.below h B0.lt).five.1.2.2.2.2, (B1.below h B1.lt).four.1⟩
  clear B0 B1
  refine (CU.out V).mono ?_
  rintro e w1 ⟨rfl, hc⟩
  have hb1 := hb0.trans (hc.mono hb0.size)
  obtain ⟨x4, y0, y1, y2, y3⟩ := BK.out w1 hc
  clear hb0 hc
  go_wp2_with fail
  refine (CV.out w1 hb1).mono ?_
  rintro e w2 ⟨rfl, hc⟩
  have hb2 := hb1.trans (hc.mono hb1.size)
  clear x4 y0 y1 y2 y3 hc hb1
  go_wp2
  go_ret
  exact ⟨rfl, hb2⟩

set_option maxHeartbeats 800000 in
theorem row_move (kd md dx dy : Int) (a : Option Addr) (c : Nat) (xs : List Int) (k : Bool) (q : Int) (g x : Bool) (w : World) (h : Ints w a xs) (hy : sqB 5000 xs = true) (hp : parB q g x = true) (hcap : xs.length ≤ c) (h0 : -16 ≤ dx ∧ dx ≤ 16) (h1 : -16 ≤ dy ∧ dy ≤ 16) :
    Calls Tryz.prog 117 #[sqV kd md dx dy a xs.length c, conV k q g x] w fun e w' => e = .returned (.string (ueS (seF dx) ++ ueS (seF dy) ++ lvS g x xs)) ∧ Below w.heap.size w w' := by
  have B0 := (Blk.new w (sqC kd md dx dy a xs.length c) 79).alloc (.cells #[.bool k, .int .i64 q, .bool g, .bool x] 26)
  have B1 := Blk.new (w.alloc (.cells (sqC kd md dx dy a xs.length c) 79)) #[.bool k, .int .i64 q, .bool g, .bool x] 26
  have hb := (Below.refl w.heap.size w).alloc (Nat.le_refl _) (.cells (sqC kd md dx dy a xs.length c) 79)
  have hb0 := hb.alloc hb.size (.cells #[.bool k, .int .i64 q, .bool g, .bool x] 26)
  rw [World.size_alloc] at B1
  have CX : Hid (∀ w', Calls Tryz.prog 121 #[.int .i64 dx] w' fun e w'' => e = .returned (.tuple #[.string (ueS (seF dx)), .bool true]) ∧ Below w'.heap.size w' w'') := fun w' => implSeRow dx w' (by omega)
  have CY : Hid (∀ w', Calls Tryz.prog 121 #[.int .i64 dy] w' fun e w'' => e = .returned (.tuple #[.string (ueS (seF dy)), .bool true]) ∧ Below w'.heap.size w' w'') := fun w' => implSeRow dy w' (by omega)
  have CV : Hid (∀ w', Below w.heap.size w w' → Calls Tryz.prog 122 #[.slice a xs.length c, conV k q g x] w' fun e w'' => e = .returned (.tuple #[.string (lvS g x xs), .bool true]) ∧ Below w'.heap.size w' w'') := fun w' hb => levels_row w' (h.below hb (Nat.le_refl _)) hy hp hcap
  have u0 := ueS_le (seF_16 h0).1 (by have := (seF_16 h0).2; omega)
  have u2 := ueS_le (seF_16 h1).1 (by have := (seF_16 h1).2; omega)
  have u1 := lvS_le g x xs
  clear h hy hp hb
  generalize ueS (seF dx) = U at *
  generalize ueS (seF dy) = U2 at *
  generalize lvS g x xs = L at *
  generalize xs.length = n at *
  have t0 : ¬ 9223372036854775807 < U.size + U2.size := by omega
  have t1 : ¬ 9223372036854775807 < U.size + U2.size + L.size := by omega
  clear u0 u1 u2 h0 h1 hcap
  go_enter Tryz.func117, Tryz.ntmps117
  go_wp2_with fail
  generalize World.alloc (World.alloc w _) _ = V at *
  have BK : Hid (∀ w', Below V.heap.size V w' → (w'.cell? ⟨w.heap.size, 3, none⟩ = some (.int .i64 dy) ∧ w'.cell? ⟨w.heap.size, 4, none⟩ = some (.slice a n c)) ∧ (w'.cell? ⟨w.heap.size + 1, 0, none⟩ = some (.bool k) ∧ w'.cell? ⟨w.heap.size + 1, 1, none⟩ = some (.int .i64 q) ∧ w'.cell? ⟨w.heap.size + 1, 2, none⟩ = some (.bool g) ∧ w'.cell? ⟨w.heap.size + 1, 3, none⟩ = some (.bool x))) := fun w' h => ⟨(B0.below h B0.lt).five.1.2.2.2, (B1.below h B1.lt).four.1⟩
  clear B0 B1
  refine (CX.out V).mono ?_
  rintro e w1 ⟨rfl, hc⟩
  have hb1 := hb0.trans (hc.mono hb0.size)
  obtain ⟨⟨x3, x4⟩, _⟩ := BK.out w1 hc
  clear hb0
  go_wp2_with fail
  refine (CY.out w1).mono ?_
  rintro e w2 ⟨rfl, hc2⟩
  have hb2 := hb1.trans (hc2.mono hb1.size)
  clear x3 x4
  obtain ⟨⟨_, x4⟩, y0, y1, y2, y3⟩ := BK.out w2 (hc.trans (hc2.mono hc.size))
  clear hc hc2 hb1
  go_wp2_with fail
  refine (CV.out w2 hb2).mono ?_
  rintro e w3 ⟨rfl, hc⟩
  have hb3 := hb2.trans (hc.mono hb2.size)
  clear x4 y0 y1 y2 y3 hc hb2
  go_wp2
  go_ret
  exact ⟨rfl, hb3⟩

theorem tlS_0 (g x : Bool) (md dx dy : Int) (xs : List Int) : tlS g x 0 md dx dy xs = (⟨#[]⟩ : ByteArray) := rfl
theorem tlS_0_le {md dx dy : Int} {xs : List Int} (g x : Bool) (h : sqOkB 0 md dx dy xs = true) : (tlS g x 0 md dx dy xs).size ≤ 20900 := by
  rw [tlS_0]
  have := lvS_le g x xs
  rcases sqOk_cases h with ⟨e, _⟩ | ⟨e, _, d1, d2, _⟩ | ⟨e, d1, _⟩
  · exact Nat.zero_le _
  · cases e
  · cases e

set_option maxHeartbeats 3200000 in
theorem squareRow_skip (md dx dy : Int) (a : Option Addr) (c : Nat) (xs : List Int) (k : Bool) (q : Int) (g x : Bool) (w : World) (h : Ints w a xs) (hl : xs.length ≤ maxLen) (hcap : xs.length ≤ c) :
    Calls Tryz.prog 10 #[sqV 0 md dx dy a xs.length c, conV k q g x] w fun e w' => e = .returned (.tuple #[.string (srS k q g x 0 md dx dy xs), .bool (srB k q g x 0 md dx dy xs)]) ∧ Below w.heap.size w w' := by
  have B0 := (Blk.new w (sqC 0 md dx dy a xs.length c) 34).alloc (.cells #[.bool k, .int .i64 q, .bool g, .bool x] 26)
  have B1 := Blk.new (w.alloc (.cells (sqC 0 md dx dy a xs.length c) 34)) #[.bool k, .int .i64 q, .bool g, .bool x] 26
  have hb := (Below.refl w.heap.size w).alloc (Nat.le_refl _) (.cells (sqC 0 md dx dy a xs.length c) 34)
  have hb0 := hb.alloc hb.size (.cells #[.bool k, .int .i64 q, .bool g, .bool x] 26)
  rw [World.size_alloc] at B1
  have CA : Hid (∀ w', Calls Tryz.prog 29 #[sqV 0 md dx dy a xs.length c] w' fun e w'' => e = .returned (.tuple #[.iface 78 (sqV 0 md dx dy a xs.length c), .bool true]) ∧ Below w'.heap.size w' w'') := fun w' => sentAs_skip md dx dy a xs.length c w'
  have CR : Hid (∀ w', Below w.heap.size w w' → Calls Tryz.prog 113 #[sqV 0 md dx dy a xs.length c] w' fun e w'' => e = .returned (.bool (sqOkB 0 md dx dy xs)) ∧ Below w'.heap.size w' w'') := fun w' hb => right_skip 0 md dx dy a c xs w' hl
  have CC : Hid (∀ w', Calls Tryz.prog 30 #[conV k q g x] w' fun e w'' => e = .returned (.bool (parB q g x)) ∧ Below w'.heap.size w' w'') := fun w' => implCondOk k q g x w'
  have CL : Hid (∀ w', Calls Tryz.prog 31 #[conV k q g x, .int .i64 0] w' fun e w'' => e = .returned (.bool (!k || decide ((0 : Int) = 2))) ∧ Below w'.heap.size w' w'') := fun w' => lets_any k q g x 0 w'
  have CK : Hid (∀ w', Calls Tryz.prog 32 #[.int .i64 0, conV k q g x] w' fun e w'' => e = .returned (.string (kdS k 0)) ∧ Below w'.heap.size w' w'') := fun w' => kindRow_any k q g x 0 w' (by decide) (by decide)
  have CW : Hid (sqOkB 0 md dx dy xs = true → parB q g x = true → ∀ w', Below w.heap.size w w' → Calls Tryz.prog 114 #[sqV 0 md dx dy a xs.length c, conV k q g x] w' fun e w'' => e = .returned (.string (tlS g x 0 md dx dy xs)) ∧ Below w'.heap.size w' w'') := fun h1 h2 w' hb => by
    show Calls _ _ _ _ fun e w'' => e = .returned (.string ⟨#[]⟩) ∧ _
    exact row_skip 0 md dx dy a xs.length c k q g x w'
  have HJ : Hid (srB k q g x 0 md dx dy xs = (sqOkB 0 md dx dy xs && parB q g x && (!k || decide ((0 : Int) = 2)))) := rfl
  have HY : Hid (srB k q g x 0 md dx dy xs = true → srS k q g x 0 md dx dy xs = kdS k 0 ++ tlS g x 0 md dx dy xs) := fun h => srS_yes h
  have HZ : Hid (srB k q g x 0 md dx dy xs = false → srS k q g x 0 md dx dy xs = ⟨#[]⟩) := fun h => srS_no h
  have HK : Hid ((kdS k 0).size ≤ 40) := kdS_le k (by decide) (by decide)
  have HT : Hid (sqOkB 0 md dx dy xs = true → (tlS g x 0 md dx dy xs).size ≤ 20900) := fun h => tlS_0_le g x h
  clear h hl hcap hb
  generalize srS k q g x 0 md dx dy xs = S at *
  generalize srB k q g x 0 md dx dy xs = J at *
  generalize sqOkB 0 md dx dy xs = R at *
  generalize parB q g x = P at *
  generalize (!k || decide ((0 : Int) = 2)) = L at *
  generalize kdS k 0 = D at *
  generalize tlS g x 0 md dx dy xs = T at *
  generalize xs.length = n at *
  go_enter Tryz.func10, Tryz.ntmps10
  go_wp2_with fail
  generalize World.alloc (World.alloc w _) _ = V at *
  have hbs := hb0.size
  have BK : Hid (∀ w', Below V.heap.size V w' → w'.cell? ⟨w.heap.size, 0, none⟩ = some (.int .i64 0) ∧ (w'.cell? ⟨w.heap.size + 1, 0, none⟩ = some (.bool k) ∧ w'.cell? ⟨w.heap.size + 1, 1, none⟩ = some (.int .i64 q) ∧ w'.cell? ⟨w.heap.size + 1, 2, none⟩ = some (.bool g) ∧ w'.cell? ⟨w.heap.size + 1, 3, none⟩ = some (.bool x))) := fun w' h => ⟨(B0.below h B0.lt).five.1.1, (B1.below h B1.lt).four.1⟩
  clear B0 B1
  refine (CA.out V).mono ?_
  rintro e w1 ⟨rfl, c1⟩
  have hb1 := hb0.trans (c1.mono hbs)
  cases R
  case false =>
    have HE : Hid (J = false) := by show _ = _; rw [HJ.out]; rfl
    obtain rfl : S = ⟨#[]⟩ := HZ.out HE.out
    go_wp2_with (go_at_call 113; refine (CR.out _ hb1).mono ?_; rintro e w2 ⟨rfl, c2⟩)
    go_ret2
    exact ⟨by rw [HE.out]; rfl, hb1.trans (c2.mono hb1.size)⟩
  case true =>
  go_wp2_with fail
  refine (CR.out w1 hb1).mono ?_
  rintro e w2 ⟨rfl, c2⟩
  have hb2 := hb1.trans (c2.mono hb1.size)
  have e2 := c1.trans (c2.mono c1.size)
  obtain ⟨x0, y0, y1, y2, y3⟩ := BK.out w2 e2
  cases P
  case false =>
    have HE : Hid (J = false) := by show _ = _; rw [HJ.out]; rfl
    obtain rfl : S = ⟨#[]⟩ := HZ.out HE.out
    go_wp2_with (go_at_call 30; refine (CC.out _).mono ?_; rintro e w3 ⟨rfl, c3⟩)
    go_ret2
    exact ⟨by rw [HE.out]; rfl, hb2.trans (c3.mono hb2.size)⟩
  case true =>
  go_wp2_with fail
  refine (CC.out w2).mono ?_
  rintro e w3 ⟨rfl, c3⟩
  have hb3 := hb2.trans (c3.mono hb2.size)
  have e3 := e2.trans (c3.mono e2.size)
  clear x0 y0 y1 y2 y3
  obtain ⟨x0, y0, y1, y2, y3⟩ := BK.out w3 e3
  cases L
  case false =>
    have HE : Hid (J = false) := by show _ = _; rw [HJ.out]; rfl
    obtain rfl : S = ⟨#[]⟩ := HZ.out HE.out
    go_wp2_with (go_at_call 31; refine (CL.out _).mono ?_; rintro e w4 ⟨rfl, c4⟩)
    go_ret2
    exact ⟨by rw [HE.out]; rfl, hb3.trans (c4.mono hb3.size)⟩
  case true =>
  go_wp2_with fail
  refine (CL.out w3).mono ?_
  rintro e w4 ⟨rfl, c4⟩
  have hb4 := hb3.trans (c4.mono hb3.size)
  have e4 := e3.trans (c4.mono e3.size)
  clear x0 y0 y1 y2 y3 hb0 hb1 hb2 hb3 c1 c2 c3 c4 e2 e3 CA CR CC CL
  obtain ⟨x0, y0, y1, y2, y3⟩ := BK.out w4 e4
  have HE : Hid (J = true) := by show _ = _; rw [HJ.out]; rfl
  obtain rfl : S = D ++ T := HY.out HE.out
  have CW2 := CW.out (by trivial) (by trivial)
  have CW3 : Hid (∀ w', Below w.heap.size w w' → Calls Tryz.prog 114 #[sqV 0 md dx dy a n c, conV k q g x] w' fun e w'' => e = .returned (.string T) ∧ Below w'.heap.size w' w'') := CW2
  have u0 := HK.out
  have u1 := HT.out (by trivial)
  have t0 : ¬ 9223372036854775807 < D.size + T.size := by omega
  clear u0 u1 CW CW2 HK HT HJ HY HZ
  go_wp2_with fail
  have hbw : Below w.heap.size w w4.drew := hb4.drew
  have hbv : Below V.heap.size V w4.drew := e4.drew
  clear hb4 e4
  go_region_held3 (fun w' => w'.cell? ⟨w.heap.size, 0, none⟩ = some (.int .i64 0) ∧ w'.cell? ⟨w.heap.size + 1, 0, none⟩ = some (.bool k) ∧ w'.cell? ⟨w.heap.size + 1, 1, none⟩ = some (.int .i64 q) ∧ w'.cell? ⟨w.heap.size + 1, 2, none⟩ = some (.bool g) ∧ w'.cell? ⟨w.heap.size + 1, 3, none⟩ = some (.bool x))
    (first | (with_reducible exact hS) | go_keep)
    (first
      | (go_at_call 32; refine (CK.out _).mono ?_; rintro e wA ⟨rfl, hcA⟩; have hbv := hbv.trans (hcA.mono hbv.size); have hbw := hbw.trans (hcA.mono hbw.size); have hS := BK.out wA hbv; clear hcA)
      | (go_at_call 114; (with_reducible refine Calls.mono (CW3.out _ ?hb) ?_); (case hb => exact hbw); rintro e wB ⟨rfl, hcB⟩; have hbv := hbv.trans (hcB.mono hbv.size); have hbw := hbw.trans (hcB.mono hbw.size); have hS := BK.out wB hbv; clear hcB))
  all_goals
    clear hS
    go_wp2
    go_ret2
    exact ⟨by rw [HE.out]; rfl, hbw⟩

theorem tlS_1 (g x : Bool) (md dx dy : Int) (xs : List Int) : tlS g x 1 md dx dy xs = ueS (seF dx) ++ ueS (seF dy) ++ lvS g x xs := rfl
theorem tlS_1_le {md dx dy : Int} {xs : List Int} (g x : Bool) (h : sqOkB 1 md dx dy xs = true) : (tlS g x 1 md dx dy xs).size ≤ 20900 := by
  rw [tlS_1]
  have := lvS_le g x xs
  rcases sqOk_cases h with ⟨e, _⟩ | ⟨e, _, d1, d2, _⟩ | ⟨e, d1, _⟩
  · cases e
  · have a1 := seF_16 d1
    have a2 := seF_16 d2
    have := ueS_le a1.1 (by omega)
    have := ueS_le a2.1 (by omega)
    simp only [ByteArray.size_append]
    omega
  · cases e

set_option maxHeartbeats 3200000 in
theorem squareRow_move (md dx dy : Int) (a : Option Addr) (c : Nat) (xs : List Int) (k : Bool) (q : Int) (g x : Bool) (w : World) (h : Ints w a xs) (hl : xs.length ≤ maxLen) (hcap : xs.length ≤ c) :
    Calls Tryz.prog 10 #[sqV 1 md dx dy a xs.length c, conV k q g x] w fun e w' => e = .returned (.tuple #[.string (srS k q g x 1 md dx dy xs), .bool (srB k q g x 1 md dx dy xs)]) ∧ Below w.heap.size w w' := by
  have B0 := (Blk.new w (sqC 1 md dx dy a xs.length c) 34).alloc (.cells #[.bool k, .int .i64 q, .bool g, .bool x] 26)
  have B1 := Blk.new (w.alloc (.cells (sqC 1 md dx dy a xs.length c) 34)) #[.bool k, .int .i64 q, .bool g, .bool x] 26
  have hb := (Below.refl w.heap.size w).alloc (Nat.le_refl _) (.cells (sqC 1 md dx dy a xs.length c) 34)
  have hb0 := hb.alloc hb.size (.cells #[.bool k, .int .i64 q, .bool g, .bool x] 26)
  rw [World.size_alloc] at B1
  have CA : Hid (∀ w', Calls Tryz.prog 29 #[sqV 1 md dx dy a xs.length c] w' fun e w'' => e = .returned (.tuple #[.iface 79 (sqV 1 md dx dy a xs.length c), .bool true]) ∧ Below w'.heap.size w' w'') := fun w' => sentAs_move md dx dy a xs.length c w'
  have CR : Hid (∀ w', Below w.heap.size w w' → Calls Tryz.prog 116 #[sqV 1 md dx dy a xs.length c] w' fun e w'' => e = .returned (.bool (sqOkB 1 md dx dy xs)) ∧ Below w'.heap.size w' w'') := fun w' hb => right_move 1 md dx dy a c xs w' (h.below hb (Nat.le_refl _)) hl
  have CC : Hid (∀ w', Calls Tryz.prog 30 #[conV k q g x] w' fun e w'' => e = .returned (.bool (parB q g x)) ∧ Below w'.heap.size w' w'') := fun w' => implCondOk k q g x w'
  have CL : Hid (∀ w', Calls Tryz.prog 31 #[conV k q g x, .int .i64 1] w' fun e w'' => e = .returned (.bool (!k || decide ((1 : Int) = 2))) ∧ Below w'.heap.size w' w'') := fun w' => lets_any k q g x 1 w'
  have CK : Hid (∀ w', Calls Tryz.prog 32 #[.int .i64 1, conV k q g x] w' fun e w'' => e = .returned (.string (kdS k 1)) ∧ Below w'.heap.size w' w'') := fun w' => kindRow_any k q g x 1 w' (by decide) (by decide)
  have CW : Hid (sqOkB 1 md dx dy xs = true → parB q g x = true → ∀ w', Below w.heap.size w w' → Calls Tryz.prog 117 #[sqV 1 md dx dy a xs.length c, conV k q g x] w' fun e w'' => e = .returned (.string (tlS g x 1 md dx dy xs)) ∧ Below w'.heap.size w' w'') := fun h1 h2 w' hb => by
    rcases sqOk_cases h1 with ⟨e, _⟩ | ⟨_, _, d1, d2, d3⟩ | ⟨e, _⟩
    · cases e
    · exact row_move 1 md dx dy a c xs k q g x w' (h.below hb (Nat.le_refl _)) d3 h2 hcap d1 d2
    · cases e
  have HJ : Hid (srB k q g x 1 md dx dy xs = (sqOkB 1 md dx dy xs && parB q g x && (!k || decide ((1 : Int) = 2)))) := rfl
  have HY : Hid (srB k q g x 1 md dx dy xs = true → srS k q g x 1 md dx dy xs = kdS k 1 ++ tlS g x 1 md dx dy xs) := fun h => srS_yes h
  have HZ : Hid (srB k q g x 1 md dx dy xs = false → srS k q g x 1 md dx dy xs = ⟨#[]⟩) := fun h => srS_no h
  have HK : Hid ((kdS k 1).size ≤ 40) := kdS_le k (by decide) (by decide)
  have HT : Hid (sqOkB 1 md dx dy xs = true → (tlS g x 1 md dx dy xs).size ≤ 20900) := fun h => tlS_1_le g x h
  clear h hl hcap hb
  generalize srS k q g x 1 md dx dy xs = S at *
  generalize srB k q g x 1 md dx dy xs = J at *
  generalize sqOkB 1 md dx dy xs = R at *
  generalize parB q g x = P at *
  generalize (!k || decide ((1 : Int) = 2)) = L at *
  generalize kdS k 1 = D at *
  generalize tlS g x 1 md dx dy xs = T at *
  generalize xs.length = n at *
  go_enter Tryz.func10, Tryz.ntmps10
  go_wp2_with fail
  generalize World.alloc (World.alloc w _) _ = V at *
  have hbs := hb0.size
  have BK : Hid (∀ w', Below V.heap.size V w' → w'.cell? ⟨w.heap.size, 0, none⟩ = some (.int .i64 1) ∧ (w'.cell? ⟨w.heap.size + 1, 0, none⟩ = some (.bool k) ∧ w'.cell? ⟨w.heap.size + 1, 1, none⟩ = some (.int .i64 q) ∧ w'.cell? ⟨w.heap.size + 1, 2, none⟩ = some (.bool g) ∧ w'.cell? ⟨w.heap.size + 1, 3, none⟩ = some (.bool x))) := fun w' h => ⟨(B0.below h B0.lt).five.1.1, (B1.below h B1.lt).four.1⟩
  clear B0 B1
  refine (CA.out V).mono ?_
  rintro e w1 ⟨rfl, c1⟩
  have hb1 := hb0.trans (c1.mono hbs)
  cases R
  case false =>
    have HE : Hid (J = false) := by show _ = _; rw [HJ.out]; rfl
    obtain rfl : S = ⟨#[]⟩ := HZ.out HE.out
    go_wp2_with (go_at_call 116; refine (CR.out _ hb1).mono ?_; rintro e w2 ⟨rfl, c2⟩)
    go_ret2
    exact ⟨by rw [HE.out]; rfl, hb1.trans (c2.mono hb1.size)⟩
  case true =>
  go_wp2_with fail
  refine (CR.out w1 hb1).mono ?_
  rintro e w2 ⟨rfl, c2⟩
  have hb2 := hb1.trans (c2.mono hb1.size)
  have e2 := c1.trans (c2.mono c1.size)
  obtain ⟨x0, y0, y1, y2, y3⟩ := BK.out w2 e2
  cases P
  case false =>
    have HE : Hid (J = false) := by show _ = _; rw [HJ.out]; rfl
    obtain rfl : S = ⟨#[]⟩ := HZ.out HE.out
    go_wp2_with (go_at_call 30; refine (CC.out _).mono ?_; rintro e w3 ⟨rfl, c3⟩)
    go_ret2
    exact ⟨by rw [HE.out]; rfl, hb2.trans (c3.mono hb2.size)⟩
  case true =>
  go_wp2_with fail
  refine (CC.out w2).mono ?_
  rintro e w3 ⟨rfl, c3⟩
  have hb3 := hb2.trans (c3.mono hb2.size)
  have e3 := e2.trans (c3.mono e2.size)
  clear x0 y0 y1 y2 y3
  obtain ⟨x0, y0, y1, y2, y3⟩ := BK.out w3 e3
  cases L
  case false =>
    have HE : Hid (J = false) := by show _ = _; rw [HJ.out]; rfl
    obtain rfl : S = ⟨#[]⟩ := HZ.out HE.out
    go_wp2_with (go_at_call 31; refine (CL.out _).mono ?_; rintro e w4 ⟨rfl, c4⟩)
    go_ret2
    exact ⟨by rw [HE.out]; rfl, hb3.trans (c4.mono hb3.size)⟩
  case true =>
  go_wp2_with fail
  refine (CL.out w3).mono ?_
  rintro e w4 ⟨rfl, c4⟩
  have hb4 := hb3.trans (c4.mono hb3.size)
  have e4 := e3.trans (c4.mono e3.size)
  clear x0 y0 y1 y2 y3 hb0 hb1 hb2 hb3 c1 c2 c3 c4 e2 e3 CA CR CC CL
  obtain ⟨x0, y0, y1, y2, y3⟩ := BK.out w4 e4
  have HE : Hid (J = true) := by show _ = _; rw [HJ.out]; rfl
  obtain rfl : S = D ++ T := HY.out HE.out
  have CW2 := CW.out (by trivial) (by trivial)
  have CW3 : Hid (∀ w', Below w.heap.size w w' → Calls Tryz.prog 117 #[sqV 1 md dx dy a n c, conV k q g x] w' fun e w'' => e = .returned (.string T) ∧ Below w'.heap.size w' w'') := CW2
  have u0 := HK.out
  have u1 := HT.out (by trivial)
  have t0 : ¬ 9223372036854775807 < D.size + T.size := by omega
  clear u0 u1 CW CW2 HK HT HJ HY HZ
  go_wp2_with fail
  have hbw : Below w.heap.size w w4.drew := hb4.drew
  have hbv : Below V.heap.size V w4.drew := e4.drew
  clear hb4 e4
  go_region_held3 (fun w' => w'.cell? ⟨w.heap.size, 0, none⟩ = some (.int .i64 1) ∧ w'.cell? ⟨w.heap.size + 1, 0, none⟩ = some (.bool k) ∧ w'.cell? ⟨w.heap.size + 1, 1, none⟩ = some (.int .i64 q) ∧ w'.cell? ⟨w.heap.size + 1, 2, none⟩ = some (.bool g) ∧ w'.cell? ⟨w.heap.size + 1, 3, none⟩ = some (.bool x))
    (first | (with_reducible exact hS) | go_keep)
    (first
      | (go_at_call 32; refine (CK.out _).mono ?_; rintro e wA ⟨rfl, hcA⟩; have hbv := hbv.trans (hcA.mono hbv.size); have hbw := hbw.trans (hcA.mono hbw.size); have hS := BK.out wA hbv; clear hcA)
      | (go_at_call 117; (with_reducible refine Calls.mono (CW3.out _ ?hb) ?_); (case hb => exact hbw); rintro e wB ⟨rfl, hcB⟩; have hbv := hbv.trans (hcB.mono hbv.size); have hbw := hbw.trans (hcB.mono hbw.size); have hS := BK.out wB hbv; clear hcB))
  all_goals
    clear hS
    go_wp2
    go_ret2
    exact ⟨by rw [HE.out]; rfl, hbw⟩

theorem tlS_2 (g x : Bool) (md dx dy : Int) (xs : List Int) : tlS g x 2 md dx dy xs = ueS md ++ lvS g x xs := rfl
theorem tlS_2_le {md dx dy : Int} {xs : List Int} (g x : Bool) (h : sqOkB 2 md dx dy xs = true) : (tlS g x 2 md dx dy xs).size ≤ 20900 := by
  rw [tlS_2]
  have := lvS_le g x xs
  rcases sqOk_cases h with ⟨e, _⟩ | ⟨e, _, d1, d2, _⟩ | ⟨e, d1, _⟩
  · cases e
  · cases e
  · have := ueS_le d1.1 (by omega)
    simp only [ByteArray.size_append]
    omega

set_option maxHeartbeats 3200000 in
theorem squareRow_guess (md dx dy : Int) (a : Option Addr) (c : Nat) (xs : List Int) (k : Bool) (q : Int) (g x : Bool) (w : World) (h : Ints w a xs) (hl : xs.length ≤ maxLen) (hcap : xs.length ≤ c) :
    Calls Tryz.prog 10 #[sqV 2 md dx dy a xs.length c, conV k q g x] w fun e w' => e = .returned (.tuple #[.string (srS k q g x 2 md dx dy xs), .bool (srB k q g x 2 md dx dy xs)]) ∧ Below w.heap.size w w' := by
  have B0 := (Blk.new w (sqC 2 md dx dy a xs.length c) 34).alloc (.cells #[.bool k, .int .i64 q, .bool g, .bool x] 26)
  have B1 := Blk.new (w.alloc (.cells (sqC 2 md dx dy a xs.length c) 34)) #[.bool k, .int .i64 q, .bool g, .bool x] 26
  have hb := (Below.refl w.heap.size w).alloc (Nat.le_refl _) (.cells (sqC 2 md dx dy a xs.length c) 34)
  have hb0 := hb.alloc hb.size (.cells #[.bool k, .int .i64 q, .bool g, .bool x] 26)
  rw [World.size_alloc] at B1
  have CA : Hid (∀ w', Calls Tryz.prog 29 #[sqV 2 md dx dy a xs.length c] w' fun e w'' => e = .returned (.tuple #[.iface 80 (sqV 2 md dx dy a xs.length c), .bool true]) ∧ Below w'.heap.size w' w'') := fun w' => sentAs_guess md dx dy a xs.length c w'
  have CR : Hid (∀ w', Below w.heap.size w w' → Calls Tryz.prog 185 #[sqV 2 md dx dy a xs.length c] w' fun e w'' => e = .returned (.bool (sqOkB 2 md dx dy xs)) ∧ Below w'.heap.size w' w'') := fun w' hb => right_guess 2 md dx dy a c xs w' (h.below hb (Nat.le_refl _)) hl
  have CC : Hid (∀ w', Calls Tryz.prog 30 #[conV k q g x] w' fun e w'' => e = .returned (.bool (parB q g x)) ∧ Below w'.heap.size w' w'') := fun w' => implCondOk k q g x w'
  have CL : Hid (∀ w', Calls Tryz.prog 31 #[conV k q g x, .int .i64 2] w' fun e w'' => e = .returned (.bool (!k || decide ((2 : Int) = 2))) ∧ Below w'.heap.size w' w'') := fun w' => lets_any k q g x 2 w'
  have CK : Hid (∀ w', Calls Tryz.prog 32 #[.int .i64 2, conV k q g x] w' fun e w'' => e = .returned (.string (kdS k 2)) ∧ Below w'.heap.size w' w'') := fun w' => kindRow_any k q g x 2 w' (by decide) (by decide)
  have CW : Hid (sqOkB 2 md dx dy xs = true → parB q g x = true → ∀ w', Below w.heap.size w w' → Calls Tryz.prog 186 #[sqV 2 md dx dy a xs.length c, conV k q g x] w' fun e w'' => e = .returned (.string (tlS g x 2 md dx dy xs)) ∧ Below w'.heap.size w' w'') := fun h1 h2 w' hb => by
    rcases sqOk_cases h1 with ⟨e, _⟩ | ⟨e, _⟩ | ⟨_, d1, _, _, d3⟩
    · cases e
    · cases e
    · exact row_guess 2 md dx dy a c xs k q g x w' (h.below hb (Nat.le_refl _)) d3 h2 hcap d1.1 d1.2
  have HJ : Hid (srB k q g x 2 md dx dy xs = (sqOkB 2 md dx dy xs && parB q g x && (!k || decide ((2 : Int) = 2)))) := rfl
  have HY : Hid (srB k q g x 2 md dx dy xs = true → srS k q g x 2 md dx dy xs = kdS k 2 ++ tlS g x 2 md dx dy xs) := fun h => srS_yes h
  have HZ : Hid (srB k q g x 2 md dx dy xs = false → srS k q g x 2 md dx dy xs = ⟨#[]⟩) := fun h => srS_no h
  have HK : Hid ((kdS k 2).size ≤ 40) := kdS_le k (by decide) (by decide)
  have HT : Hid (sqOkB 2 md dx dy xs = true → (tlS g x 2 md dx dy xs).size ≤ 20900) := fun h => tlS_2_le g x h
  clear h hl hcap hb
  generalize srS k q g x 2 md dx dy xs = S at *
  generalize srB k q g x 2 md dx dy xs = J at *
  generalize sqOkB 2 md dx dy xs = R at *
  generalize parB q g x = P at *
  generalize (!k || decide ((2 : Int) = 2)) = L at *
  generalize kdS k 2 = D at *
  generalize tlS g x 2 md dx dy xs = T at *
  generalize xs.length = n at *
  go_enter Tryz.func10, Tryz.ntmps10
  go_wp2_with fail
  generalize World.alloc (World.alloc w _) _ = V at *
  have hbs := hb0.size
  have BK : Hid (∀ w', Below V.heap.size V w' → w'.cell? ⟨w.heap.size, 0, none⟩ = some (.int .i64 2) ∧ (w'.cell? ⟨w.heap.size + 1, 0, none⟩ = some (.bool k) ∧ w'.cell? ⟨w.heap.size + 1, 1, none⟩ = some (.int .i64 q) ∧ w'.cell? ⟨w.heap.size + 1, 2, none⟩ = some (.bool g) ∧ w'.cell? ⟨w.heap.size + 1, 3, none⟩ = some (.bool x))) := fun w' h => ⟨(B0.below h B0.lt).five.1.1, (B1.below h B1.lt).four.1⟩
  clear B0 B1
  refine (CA.out V).mono ?_
  rintro e w1 ⟨rfl, c1⟩
  have hb1 := hb0.trans (c1.mono hbs)
  cases R
  case false =>
    have HE : Hid (J = false) := by show _ = _; rw [HJ.out]; rfl
    obtain rfl : S = ⟨#[]⟩ := HZ.out HE.out
    go_wp2_with (go_at_call 185; refine (CR.out _ hb1).mono ?_; rintro e w2 ⟨rfl, c2⟩)
    go_ret2
    exact ⟨by rw [HE.out]; rfl, hb1.trans (c2.mono hb1.size)⟩
  case true =>
  go_wp2_with fail
  refine (CR.out w1 hb1).mono ?_
  rintro e w2 ⟨rfl, c2⟩
  have hb2 := hb1.trans (c2.mono hb1.size)
  have e2 := c1.trans (c2.mono c1.size)
  obtain ⟨x0, y0, y1, y2, y3⟩ := BK.out w2 e2
  cases P
  case false =>
    have HE : Hid (J = false) := by show _ = _; rw [HJ.out]; rfl
    obtain rfl : S = ⟨#[]⟩ := HZ.out HE.out
    go_wp2_with (go_at_call 30; refine (CC.out _).mono ?_; rintro e w3 ⟨rfl, c3⟩)
    go_ret2
    exact ⟨by rw [HE.out]; rfl, hb2.trans (c3.mono hb2.size)⟩
  case true =>
  go_wp2_with fail
  refine (CC.out w2).mono ?_
  rintro e w3 ⟨rfl, c3⟩
  have hb3 := hb2.trans (c3.mono hb2.size)
  have e3 := e2.trans (c3.mono e2.size)
  clear x0 y0 y1 y2 y3
  obtain ⟨x0, y0, y1, y2, y3⟩ := BK.out w3 e3
  cases L
  case false =>
    have HE : Hid (J = false) := by show _ = _; rw [HJ.out]; rfl
    obtain rfl : S = ⟨#[]⟩ := HZ.out HE.out
    go_wp2_with (go_at_call 31; refine (CL.out _).mono ?_; rintro e w4 ⟨rfl, c4⟩)
    go_ret2
    exact ⟨by rw [HE.out]; rfl, hb3.trans (c4.mono hb3.size)⟩
  case true =>
  go_wp2_with fail
  refine (CL.out w3).mono ?_
  rintro e w4 ⟨rfl, c4⟩
  have hb4 := hb3.trans (c4.mono hb3.size)
  have e4 := e3.trans (c4.mono e3.size)
  clear x0 y0 y1 y2 y3 hb0 hb1 hb2 hb3 c1 c2 c3 c4 e2 e3 CA CR CC CL
  obtain ⟨x0, y0, y1, y2, y3⟩ := BK.out w4 e4
  have HE : Hid (J = true) := by show _ = _; rw [HJ.out]; rfl
  obtain rfl : S = D ++ T := HY.out HE.out
  have CW2 := CW.out (by trivial) (by trivial)
  have CW3 : Hid (∀ w', Below w.heap.size w w' → Calls Tryz.prog 186 #[sqV 2 md dx dy a n c, conV k q g x] w' fun e w'' => e = .returned (.string T) ∧ Below w'.heap.size w' w'') := CW2
  have u0 := HK.out
  have u1 := HT.out (by trivial)
  have t0 : ¬ 9223372036854775807 < D.size + T.size := by omega
  clear u0 u1 CW CW2 HK HT HJ HY HZ
  go_wp2_with fail
  have hbw : Below w.heap.size w w4.drew := hb4.drew
  have hbv : Below V.heap.size V w4.drew := e4.drew
  clear hb4 e4
  go_region_held3 (fun w' => w'.cell? ⟨w.heap.size, 0, none⟩ = some (.int .i64 2) ∧ w'.cell? ⟨w.heap.size + 1, 0, none⟩ = some (.bool k) ∧ w'.cell? ⟨w.heap.size + 1, 1, none⟩ = some (.int .i64 q) ∧ w'.cell? ⟨w.heap.size + 1, 2, none⟩ = some (.bool g) ∧ w'.cell? ⟨w.heap.size + 1, 3, none⟩ = some (.bool x))
    (first | (with_reducible exact hS) | go_keep)
    (first
      | (go_at_call 32; refine (CK.out _).mono ?_; rintro e wA ⟨rfl, hcA⟩; have hbv := hbv.trans (hcA.mono hbv.size); have hbw := hbw.trans (hcA.mono hbw.size); have hS := BK.out wA hbv; clear hcA)
      | (go_at_call 186; (with_reducible refine Calls.mono (CW3.out _ ?hb) ?_); (case hb => exact hbw); rintro e wB ⟨rfl, hcB⟩; have hbv := hbv.trans (hcB.mono hbv.size); have hbw := hbw.trans (hcB.mono hbw.size); have hS := BK.out wB hbv; clear hcB))
  all_goals
    clear hS
    go_wp2
    go_ret2
    exact ⟨by rw [HE.out]; rfl, hbw⟩

theorem srB_no {kd md dx dy : Int} {xs : List Int} (k : Bool) (q : Int) (g x : Bool) (h : sqOkB kd md dx dy xs = false) : srB k q g x kd md dx dy xs = false := by
  unfold srB
  rw [h]
  rfl
set_option maxHeartbeats 800000 in
theorem implSquareRow (kd md dx dy : Int) (a : Option Addr) (c : Nat) (xs : List Int) (k : Bool) (q : Int) (g x : Bool) (w : World) (h : Ints w a xs) (hl : xs.length ≤ maxLen) (hcap : xs.length ≤ c) :
    Calls Tryz.prog 10 #[sqV kd md dx dy a xs.length c, conV k q g x] w fun e w' => e = .returned (.tuple #[.string (srS k q g x kd md dx dy xs), .bool (srB k q g x kd md dx dy xs)]) ∧ Below w.heap.size w w' := by
  by_cases h0 : kd = 0
  · subst h0
    exact squareRow_skip md dx dy a c xs k q g x w h hl hcap
  by_cases h1 : kd = 1
  · subst h1
    exact squareRow_move md dx dy a c xs k q g x w h hl hcap
  by_cases h2 : kd = 2
  · subst h2
    exact squareRow_guess md dx dy a c xs k q g x w h hl hcap
  have e1 := srB_no k q g x (sqOk_no (md := md) (dx := dx) (dy := dy) (xs := xs) h0 h1 h2)
  rw [srS_no e1, e1]
  have CA : Hid (∀ w', Calls Tryz.prog 29 #[sqV kd md dx dy a xs.length c] w' fun e w'' => e = .returned (.tuple #[.nilIface, .bool false]) ∧ Below w'.heap.size w' w'') := fun w' => sentAs_none kd md dx dy a xs.length c w' h0 h1 h2
  have hb := (Below.refl w.heap.size w).alloc (Nat.le_refl _) (.cells (sqC kd md dx dy a xs.length c) 34)
  have hb0 := hb.alloc hb.size (.cells #[.bool k, .int .i64 q, .bool g, .bool x] 26)
  clear h hl hcap h0 h1 h2 e1 hb
  generalize xs.length = n at *
  go_enter Tryz.func10, Tryz.ntmps10
  go_wp2_with fail
  refine (CA.out _).mono ?_
  rintro e w1 ⟨rfl, c1⟩
  have hb1 := hb0.trans (c1.mono hb0.size)
  clear hb0 c1
  go_wp2
  go_ret2
  exact ⟨rfl, hb1⟩
end Go.Proofs.YtnlbigjfnjcldaaGreat
