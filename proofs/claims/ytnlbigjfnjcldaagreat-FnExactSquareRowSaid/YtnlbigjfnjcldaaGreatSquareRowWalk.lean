/-
  The walk of laws.FnExactSquareRow: a square and a condition in, its row and a yes or no out.
-/
import Derived.Test.YtnlbigjfnjcldaaGreatSquareSpec
import Derived.Deep.RegionHeld3
import Derived.Deep.CutRange
namespace Go.Proofs.YtnlbigjfnjcldaaGreat
open Go.RowKit
set_option linter.unusedVariables false
set_option maxRecDepth 20000

set_option maxHeartbeats 3200000 in
theorem fnExactSquareRow_walk (kd md dx dy : Int) (a : Option Addr) (xs : List Int) (c : Nat) (k : Bool) (q : Int) (g x : Bool) (w : World) (h : Ints w a xs) (hl : xs.length ≤ maxLen) :
    Calls Tryz.prog 4 #[sqV kd md dx dy a xs.length c, conV k q g x] w fun e w' => e = .returned (.bool true) ∧ Below w.heap.size w w' := by
  have B0 := (Blk.new w (sqC kd md dx dy a xs.length c) 40).alloc (.cells #[.bool k, .int .i64 q, .bool g, .bool x] 41)
  have B1 := Blk.new (w.alloc (.cells (sqC kd md dx dy a xs.length c) 40)) #[.bool k, .int .i64 q, .bool g, .bool x] 41
  have hb := (Below.refl w.heap.size w).alloc (Nat.le_refl _) (.cells (sqC kd md dx dy a xs.length c) 40)
  have hb0 := hb.alloc hb.size (.cells #[.bool k, .int .i64 q, .bool g, .bool x] 41)
  rw [World.size_alloc] at B1
  have H : Hid (∀ w', Below w.heap.size w w' → Ints w' a xs) := fun w' hb => h.below hb (Nat.le_refl _)
  have CZ : Hid (∀ w', Calls Tryz.prog 15 #[sqV kd md dx dy a xs.length c, .int .i64 1048576] w' fun e w'' => ∃ r : Int, e = .returned (.int .i64 r) ∧ (r < 0 ∨ (0 ≤ r ∧ (xs.length : Int) ≤ 1048576)) ∧ Below w'.heap.size w' w'') := fun w' => szSquare_any _ _ _ _ _ _ _ _ w' hl (by decide) (by decide)
  have CT : Hid (xs.length ≤ 1048576 → ∀ w', Below w.heap.size w w' → Calls Tryz.prog 17 #[sqV kd md dx dy a xs.length c] w' fun e w'' => (∃ a3 c3, e = .returned (sqV kd md dx dy a3 xs.length c3) ∧ xs.length ≤ c3 ∧ Ints w'' a3 xs) ∧ Below w'.heap.size w' w'') := fun hm w' hb => by
    refine (toSquare_any kd md dx dy a c xs w' (H.out w' hb) hm).mono ?_
    rintro e w'' ⟨a3, c3, rfl, h1, h2, _, h3⟩
    exact ⟨⟨a3, c3, rfl, h1, h2⟩, h3⟩
  have CC : Hid (∀ w', Calls Tryz.prog 18 #[conV k q g x] w' fun e w'' => e = .returned (conV k q g x) ∧ Below w'.heap.size w' w'') := fun w' => toCond_any k q g x w'
  have CS : Hid (∀ (p : Option Addr) (c : Nat) (w' : World), Ints w' p xs → xs.length ≤ c → Calls Tryz.prog 16 #[sqV kd md dx dy p xs.length c, conV k q g x] w' (fun e w'' => e = .returned (.tuple #[.string (srS k q g x kd md dx dy xs), .bool (srB k q g x kd md dx dy xs)]) ∧ Below w'.heap.size w' w'')) := fun p c w' hi hc => specSquareRow kd md dx dy p c xs k q g x w' hi hl hc
  have CI : Hid (∀ (p : Option Addr) (c : Nat) (w' : World), Ints w' p xs → xs.length ≤ c → Calls Tryz.prog 10 #[sqV kd md dx dy p xs.length c, conV k q g x] w' (fun e w'' => e = .returned (.tuple #[.string (srS k q g x kd md dx dy xs), .bool (srB k q g x kd md dx dy xs)]) ∧ Below w'.heap.size w' w'')) := fun p c w' hi hc => implSquareRow kd md dx dy p c xs k q g x w' hi hl hc
  generalize srS k q g x kd md dx dy xs = R at *
  generalize srB k q g x kd md dx dy xs = Y at *
  clear h hl hb
  go_enter Tryz.func4, Tryz.ntmps4
  go_wp2_with fail
  have hbs := hb0.size
  generalize World.alloc (World.alloc w _) _ = V at *
  have BK : Hid (∀ w', Below V.heap.size V w' → (w'.cell? ⟨w.heap.size, 0, none⟩ = some (.int .i64 kd) ∧ w'.cell? ⟨w.heap.size, 1, none⟩ = some (.int .i64 md) ∧ w'.cell? ⟨w.heap.size, 2, none⟩ = some (.int .i64 dx) ∧ w'.cell? ⟨w.heap.size, 3, none⟩ = some (.int .i64 dy) ∧ w'.cell? ⟨w.heap.size, 4, none⟩ = some (.slice a xs.length c)) ∧ (w'.cell? ⟨w.heap.size + 1, 0, none⟩ = some (.bool k) ∧ w'.cell? ⟨w.heap.size + 1, 1, none⟩ = some (.int .i64 q) ∧ w'.cell? ⟨w.heap.size + 1, 2, none⟩ = some (.bool g) ∧ w'.cell? ⟨w.heap.size + 1, 3, none⟩ = some (.bool x))) := fun w' h => ⟨(B0.below h B0.lt).five.1, (B1.below h B1.lt).four.1⟩
  clear B0 B1
  refine (CZ.out V).mono ?_
  rintro e w1 ⟨r, rfl, hr | ⟨hr, n1⟩, hv1⟩
  · have hb1 := hb0.trans (hv1.mono hbs)
    clear hv1
    go_wp2
    go_ret
    exact ⟨rfl, hb1⟩
  have hb1 := hb0.trans (hv1.mono hbs)
  have k1 : xs.length ≤ 1048576 := by omega
  have CTT : Hid (∀ w', Below w.heap.size w w' → Calls Tryz.prog 17 #[sqV kd md dx dy a xs.length c] w' fun e w'' => (∃ a3 c3, e = .returned (sqV kd md dx dy a3 xs.length c3) ∧ xs.length ≤ c3 ∧ Ints w'' a3 xs) ∧ Below w'.heap.size w' w'') := CT.out k1
  clear CT CZ n1
  go_wp2_with fail
  clear hr
  obtain ⟨⟨x0, x1, x2, x3, x4⟩, y0, y1, y2, y3⟩ := BK.out w1 hv1
  go_cut [6, 7] from 16 to 23 (fun u v wc => u = .string R ∧ v = .bool Y ∧ Below V.heap.size V wc)
  case first =>
    have hbw : Below w.heap.size w w1.drew := hb1.drew
    have hbC : Below V.heap.size V w1.drew := hv1.drew
    clear hb0 hb1 hv1
    go_region_held3 (fun w' => (w'.cell? ⟨w.heap.size, 0, none⟩ = some (.int .i64 kd) ∧ w'.cell? ⟨w.heap.size, 1, none⟩ = some (.int .i64 md) ∧ w'.cell? ⟨w.heap.size, 2, none⟩ = some (.int .i64 dx) ∧ w'.cell? ⟨w.heap.size, 3, none⟩ = some (.int .i64 dy) ∧ w'.cell? ⟨w.heap.size, 4, none⟩ = some (.slice a xs.length c)) ∧ (w'.cell? ⟨w.heap.size + 1, 0, none⟩ = some (.bool k) ∧ w'.cell? ⟨w.heap.size + 1, 1, none⟩ = some (.int .i64 q) ∧ w'.cell? ⟨w.heap.size + 1, 2, none⟩ = some (.bool g) ∧ w'.cell? ⟨w.heap.size + 1, 3, none⟩ = some (.bool x)))
      (first | (with_reducible exact hS) | go_keep)
      (first
        | (go_at_call 17; (with_reducible refine Calls.mono (CTT.out _ ?hb) ?_); (case hb => exact hbw); rintro e wA ⟨⟨pA, cA, rfl, hcap, iA⟩, hcA⟩; have hbC := hbC.trans (hcA.mono hbC.size); have hbw := hbw.trans (hcA.mono hbw.size); have hS := BK.out wA hbC; clear hcA)
        | (go_at_call 18; refine (CC.out _).mono ?_; rintro e wB ⟨rfl, hcB⟩; have iB := iA.below hcB (Nat.le_refl _); have hbC := hbC.trans (hcB.mono hbC.size); have hbw := hbw.trans (hcB.mono hbw.size); have hS := BK.out wB hbC; clear hcB)
        | (go_at_call 16; refine (CS.out _ _ _ iB hcap).mono ?_; rintro e wC ⟨rfl, hcC⟩; have hbC := hbC.trans (hcC.mono hbC.size); have hS := BK.out wC hbC))
    all_goals
      go_wp2_with fail
      go_meet
      exact ⟨rfl, rfl, hbC⟩
  case rest =>
  obtain ⟨rfl, rfl, hv⟩ := hcut
  clear x0 x1 x2 x3 x4 y0 y1 y2 y3 hb1 hv1 CS
  generalize wc = w2 at *
  have hb2 := hb0.trans (hv.mono hbs)
  obtain ⟨⟨x0, x1, x2, x3, x4⟩, y0, y1, y2, y3⟩ := BK.out w2 hv
  go_wp2_with fail
  refine (CTT.out w2 hb2).mono ?_
  rintro e w4 ⟨⟨a3, c3, rfl, hcap, i3⟩, hc⟩
  have hb4 := hb2.trans (hc.mono hb2.size)
  have hv4 := hv.trans (hc.mono hv.size)
  have HI : Hid (Ints w4 a3 xs) := i3
  clear hc hb2 hv x0 x1 x2 x3 x4 y0 y1 y2 y3 i3
  go_wp2_with fail
  have X5 : Blk (w4.alloc (.cells (sqC kd md dx dy a3 xs.length c3) 34)) w4.heap.size _ _ := Blk.new w4 _ _
  have hb45 := (Below.refl w4.heap.size w4).alloc (Nat.le_refl _) (.cells (sqC kd md dx dy a3 xs.length c3) 34)
  have hb5 := hb4.alloc hb4.size (.cells (sqC kd md dx dy a3 xs.length c3) 34)
  have hv5 := hv4.alloc hv4.size (.cells (sqC kd md dx dy a3 xs.length c3) 34)
  generalize w4.alloc _ = X at *
  have HX : Hid (∀ w', Below X.heap.size X w' → Ints w' a3 xs) := fun w' h => (HI.out.below hb45 (Nat.le_refl _)).below h (Nat.le_refl _)
  have BX : Hid (∀ w', Below X.heap.size X w' → ((w'.cell? ⟨w4.heap.size, 0, none⟩ = some (.int .i64 kd) ∧ w'.cell? ⟨w4.heap.size, 1, none⟩ = some (.int .i64 md) ∧ w'.cell? ⟨w4.heap.size, 2, none⟩ = some (.int .i64 dx) ∧ w'.cell? ⟨w4.heap.size, 3, none⟩ = some (.int .i64 dy) ∧ w'.cell? ⟨w4.heap.size, 4, none⟩ = some (.slice a3 xs.length c3)) ∧ (w'.cell? ⟨w.heap.size, 0, none⟩ = some (.int .i64 kd) ∧ w'.cell? ⟨w.heap.size, 1, none⟩ = some (.int .i64 md) ∧ w'.cell? ⟨w.heap.size, 2, none⟩ = some (.int .i64 dx) ∧ w'.cell? ⟨w.heap.size, 3, none⟩ = some (.int .i64 dy) ∧ w'.cell? ⟨w.heap.size, 4, none⟩ = some (.slice a xs.length c))) ∧ (w'.cell? ⟨w.heap.size + 1, 0, none⟩ = some (.bool k) ∧ w'.cell? ⟨w.heap.size + 1, 1, none⟩ = some (.int .i64 q) ∧ w'.cell? ⟨w.heap.size + 1, 2, none⟩ = some (.bool g) ∧ w'.cell? ⟨w.heap.size + 1, 3, none⟩ = some (.bool x))) := fun w' h => ⟨⟨(X5.below h X5.lt).five.1, (BK.out w' (hv5.trans (h.mono hv5.size))).1⟩, (BK.out w' (hv5.trans (h.mono hv5.size))).2⟩
  have hxs := hb5.size
  clear HI hb45 BK hb4 hv4 X5 hv5 hb0 hbs
  obtain ⟨⟨⟨z0, z1, z2, z3, z4⟩, x0, x1, x2, x3, x4⟩, y0, y1, y2, y3⟩ := BX.out X (Below.refl _ _)
  go_wp2_with fail
  go_cut [9, 10] from 26 to 32 (fun u v wc => u = .string R ∧ v = .bool Y ∧ Below X.heap.size X wc)
  case first =>
    have hbC : Below X.heap.size X X.drew := (Below.refl _ _).drew
    go_region_held3 (fun w' => ((w'.cell? ⟨w4.heap.size, 0, none⟩ = some (.int .i64 kd) ∧ w'.cell? ⟨w4.heap.size, 1, none⟩ = some (.int .i64 md) ∧ w'.cell? ⟨w4.heap.size, 2, none⟩ = some (.int .i64 dx) ∧ w'.cell? ⟨w4.heap.size, 3, none⟩ = some (.int .i64 dy) ∧ w'.cell? ⟨w4.heap.size, 4, none⟩ = some (.slice a3 xs.length c3)) ∧ (w'.cell? ⟨w.heap.size, 0, none⟩ = some (.int .i64 kd) ∧ w'.cell? ⟨w.heap.size, 1, none⟩ = some (.int .i64 md) ∧ w'.cell? ⟨w.heap.size, 2, none⟩ = some (.int .i64 dx) ∧ w'.cell? ⟨w.heap.size, 3, none⟩ = some (.int .i64 dy) ∧ w'.cell? ⟨w.heap.size, 4, none⟩ = some (.slice a xs.length c))) ∧ (w'.cell? ⟨w.heap.size + 1, 0, none⟩ = some (.bool k) ∧ w'.cell? ⟨w.heap.size + 1, 1, none⟩ = some (.int .i64 q) ∧ w'.cell? ⟨w.heap.size + 1, 2, none⟩ = some (.bool g) ∧ w'.cell? ⟨w.heap.size + 1, 3, none⟩ = some (.bool x)))
      (first | (with_reducible exact hS) | go_keep)
      (first
        | (go_at_call 18; refine (CC.out _).mono ?_; rintro e wB ⟨rfl, hcB⟩; have hbC := hbC.trans (hcB.mono hbC.size); have iB := HX.out wB hbC; have hS := BX.out wB hbC; clear hcB)
        | (go_at_call 10; refine (CI.out _ _ _ iB hcap).mono ?_; rintro e wC ⟨rfl, hcC⟩; have hbC := hbC.trans (hcC.mono hbC.size); have hS := BX.out wC hbC))
    all_goals
      go_wp2_with fail
      go_meet
      exact ⟨rfl, rfl, hbC⟩
  case rest =>
  obtain ⟨rfl, rfl, hX⟩ := hcut
  clear z0 z1 z2 z3 z4 x0 x1 x2 x3 x4 y0 y1 y2 y3 CC CI
  generalize wc = w6 at *
  have hb6 := hb5.trans (hX.mono hxs)
  obtain ⟨⟨⟨z0, z1, z2, z3, z4⟩, x0, x1, x2, x3, x4⟩, _⟩ := BX.out w6 hX
  go_wp2_with fail
  have hbw : Below w.heap.size w w6.drew := hb6.drew
  have hbC : Below X.heap.size X w6.drew := hX.drew
  go_region_held3 (fun w' => ((w'.cell? ⟨w4.heap.size, 0, none⟩ = some (.int .i64 kd) ∧ w'.cell? ⟨w4.heap.size, 1, none⟩ = some (.int .i64 md) ∧ w'.cell? ⟨w4.heap.size, 2, none⟩ = some (.int .i64 dx) ∧ w'.cell? ⟨w4.heap.size, 3, none⟩ = some (.int .i64 dy) ∧ w'.cell? ⟨w4.heap.size, 4, none⟩ = some (.slice a3 xs.length c3)) ∧ (w'.cell? ⟨w.heap.size, 0, none⟩ = some (.int .i64 kd) ∧ w'.cell? ⟨w.heap.size, 1, none⟩ = some (.int .i64 md) ∧ w'.cell? ⟨w.heap.size, 2, none⟩ = some (.int .i64 dx) ∧ w'.cell? ⟨w.heap.size, 3, none⟩ = some (.int .i64 dy) ∧ w'.cell? ⟨w.heap.size, 4, none⟩ = some (.slice a xs.length c))))
    (first | (with_reducible exact hS) | go_keep)
    (first
      | (go_at_call 17; (with_reducible refine Calls.mono (CTT.out _ ?hb) ?_); (case hb => exact hbw); rintro e w7 ⟨⟨a5, c5, rfl, _, i5⟩, hc7⟩; have hbC := hbC.trans (hc7.mono hbC.size); have hbw := hbw.trans (hc7.mono hbw.size); have hS := (BX.out w7 hbC).1; have HJ : Hid (Ints w7 a5 xs) := i5; clear hc7 i5)
      | (go_at_call 19; refine (eqSquare_any _ _ _ _ _ _ _ _ _ _ (HX.out _ hbC) HJ.out k1).mono ?_; rintro e w8 ⟨rfl, hc8⟩; have hbC := hbC.trans (hc8.mono hbC.size); have hbw := hbw.trans (hc8.mono hbw.size); have hS := (BX.out w8 hbC).1))
  all_goals
    clear hS
    go_wp2
    go_ret
    exact ⟨rfl, hbw⟩
end Go.Proofs.YtnlbigjfnjcldaaGreat
