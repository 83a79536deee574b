/-
  The walks of impl.HeadRow and spec.HeadRow: a head in signs.
  The walk of impl.headAtFirst: the numbers of a head at a row's beginning, whatever they are.
  The walk of impl.ReadHead: the head at a row's beginning.
-/
import Derived.Test.YtdokmojifkggjaaDoorHeadSpec
import Derived.Test.YtdokmojifkggjaaDoorMCountImpl
import Derived.Test.YtdokmojifkggjaaDoorMFixKit
namespace Go.Proofs.YtdokmojifkggjaaDoor
open Go.RowKit
set_option linter.unusedVariables false
set_option maxRecDepth 20000

/-- The row of a head. -/
def headS (m : Nat) (t f d : Int) : ByteArray := ueS t ++ strOfNums (fixL f m) ++ ueS (seF d)
theorem tilesI_bd (l b : Int) (xs ys : List Int) : tilesI l b xs ys ≤ 16 := by
  cases hs : seqB l b xs ys
  · rw [tilesI_no hs]; omega
  · rw [tilesI_yes hs]
    obtain ⟨⟨_, _, k1⟩, ⟨_, _, k2⟩, _⟩ := seq_sides hs
    have : (xs.length : Int) * (ys.length : Int) ≤ 4 * 4 := Int.mul_le_mul (by omega) (by omega) (by omega) (by omega)
    omega
theorem ueS_small (n : Int) (h0 : 0 ≤ n) (h1 : n ≤ 1000000) : (ueS n).size ≤ 41 := by
  rw [ueS_size n h0 h1]
  have := (wid_pow (n + 1) (by omega) (by omega)).2.1
  omega

set_option maxHeartbeats 1600000 in
theorem implHeadRow_no (l b : Int) (a1 a2 : Option Addr) (c1 c2 : Nat) (xs ys : List Int) (q : Int) (g x c : Bool) (t f k : Int) (w : World) (h : SetIn w a1 a2 xs ys) (hh : headB l b xs ys q g x t f k = false) :
    Calls Tryd.prog 10 #[.agg #[.int .i64 l, .int .i64 b, .slice a1 xs.length c1, .slice a2 ys.length c2], .agg #[.int .i64 q, .bool g, .bool x, .bool c], .agg #[.int .i64 t, .int .i64 f, .int .i64 k]] w fun e w' => e = .returned (.tuple #[.string ⟨#[]⟩, .bool false]) ∧ Below w.heap.size w w' := by
  have HK : Hid (∀ w', Below w.heap.size w w' → Calls Tryd.prog 14 #[.agg #[.int .i64 l, .int .i64 b, .slice a1 xs.length c1, .slice a2 ys.length c2], .agg #[.int .i64 q, .bool g, .bool x, .bool c], .agg #[.int .i64 t, .int .i64 f, .int .i64 k]] w' fun e w'' => e = .returned (.bool false) ∧ Below w'.heap.size w' w'') := fun w' hb => by rw [← hh]; exact implHeadOk l b a1 a2 c1 c2 xs ys q g x c t f k w' (h.below hb (Nat.le_refl _))
  clear h hh
  go_enter Tryd.func10, Tryd.ntmps10
  go_wp2_with fail
  generalize hW : World.alloc (World.alloc (World.alloc w _) _) _ = W
  have hb0 : Below w.heap.size w W := by rw [← hW]; exact (((Below.refl _ _).alloc (Nat.le_refl _) _).alloc (by simp) _).alloc (by simp; omega) _
  clear hW
  refine (HK.out W hb0).mono ?_
  rintro e w1 ⟨rfl, hc⟩
  have hb1 := hb0.trans (hc.mono hb0.size)
  clear hc hb0 HK
  go_wp2
  go_ret2
  exact ⟨rfl, hb1⟩

set_option maxHeartbeats 1600000 in
theorem implHeadRow (l b : Int) (a1 a2 : Option Addr) (c1 c2 : Nat) (xs ys : List Int) (q : Int) (g x c : Bool) (t f k : Int) (w : World) (h : SetIn w a1 a2 xs ys) (hh : headB l b xs ys q g x t f k = true) :
    Calls Tryd.prog 10 #[.agg #[.int .i64 l, .int .i64 b, .slice a1 xs.length c1, .slice a2 ys.length c2], .agg #[.int .i64 q, .bool g, .bool x, .bool c], .agg #[.int .i64 t, .int .i64 f, .int .i64 k]] w fun e w' => e = .returned (.tuple #[.string (headS b.toNat t f (k - q)), .bool true]) ∧ Below w.heap.size w w' := by
  have HK : Hid (∀ w', Below w.heap.size w w' → Calls Tryd.prog 14 #[.agg #[.int .i64 l, .int .i64 b, .slice a1 xs.length c1, .slice a2 ys.length c2], .agg #[.int .i64 q, .bool g, .bool x, .bool c], .agg #[.int .i64 t, .int .i64 f, .int .i64 k]] w' fun e w'' => e = .returned (.bool true) ∧ Below w'.heap.size w' w'') := fun w' hb => by rw [← hh]; exact implHeadOk l b a1 a2 c1 c2 xs ys q g x c t f k w' (h.below hb (Nat.le_refl _))
  obtain ⟨hp, ⟨t0, t1⟩, ⟨f0, f1⟩, k0, k1⟩ := headB_true hh
  obtain ⟨_, _, y0, y1⟩ := seqB_true (headB_seq hh)
  obtain ⟨q0, q1⟩ := parB_bd hp
  have t2 := tilesI_bd l b xs ys
  obtain ⟨m, rfl⟩ : ∃ m : Nat, b = m := ⟨b.toNat, by omega⟩
  rw [Int.toNat_natCast] at f1 ⊢
  have U : Hid (∀ w', Calls Tryd.prog 30 #[.int .i64 t] w' fun e w'' => e = .returned (.tuple #[.string (ueS t), .bool true]) ∧ Below w'.heap.size w' w'') := fun w' => implUeRow t w' ⟨t0, by omega⟩
  have F : Hid (∀ w', Calls Tryd.prog 31 #[.int .i64 f, .int .i64 m] w' fun e w'' => e = .returned (.tuple #[.string (strOfNums (fixL f m)), .bool true]) ∧ Below w'.heap.size w' w'') := fun w' => implFix f m w' f0 (by omega) f1
  have D : Hid (∀ w', Calls Tryd.prog 32 #[.int .i64 (k - q)] w' fun e w'' => e = .returned (.tuple #[.string (ueS (seF (k - q))), .bool true]) ∧ Below w'.heap.size w' w'') := fun w' => implSeRow (k - q) w' ⟨by omega, by omega⟩
  have z1 : (ueS t).size ≤ 41 := ueS_small t t0 (by omega)
  have z2 : (strOfNums (fixL f m)).size ≤ 8 := by rw [strOfNums_size, fixL_length]; omega
  have z3 : (ueS (seF (k - q))).size ≤ 41 := by
    have := seF_bd (k - q) ⟨by omega, by omega⟩
    exact ueS_small _ this.1 this.2
  have HS : Hid (headS m t f (k - q) = ueS t ++ strOfNums (fixL f m) ++ ueS (seF (k - q))) := rfl
  generalize headS m t f (k - q) = R at *
  generalize ueS t = X at *
  generalize strOfNums (fixL f m) = Y at *
  generalize ueS (seF (k - q)) = Z at *
  have e1 : ¬ (9223372036854775807 : Int) < ((X ++ Y).size : Int) := by rw [ByteArray.size_append]; omega
  have e2 : ¬ (9223372036854775807 : Int) < ((X ++ Y ++ Z).size : Int) := by rw [ByteArray.size_append, ByteArray.size_append]; omega
  clear h hh hp t0 t1 f0 f1
  go_enter Tryd.func10, Tryd.ntmps10
  go_wp2_with fail
  generalize hW : World.alloc (World.alloc (World.alloc w _) _) _ = W
  have S0 : Blk W w.heap.size #[.int .i64 l, .int .i64 m, .slice a1 xs.length c1, .slice a2 ys.length c2] 26 := by rw [← hW]; exact ((Blk.new w _ _).alloc _).alloc _
  have P0 : Blk W (w.heap.size + 1) #[.int .i64 q, .bool g, .bool x, .bool c] 28 := by rw [← hW]; exact (Blk.new' _ _ (by simp)).alloc _
  have K0 : Blk W (w.heap.size + 1 + 1) #[.int .i64 t, .int .i64 f, .int .i64 k] 30 := by rw [← hW]; exact Blk.new' _ _ (by simp)
  have hb0 : Below w.heap.size w W := by rw [← hW]; exact (((Below.refl _ _).alloc (Nat.le_refl _) _).alloc (by simp) _).alloc (by simp; omega) _
  clear hW
  refine (HK.out W hb0).mono ?_
  rintro e w1 ⟨rfl, hc⟩
  have hb1 := hb0.trans (hc.mono hb0.size)
  have S1 := S0.below hc S0.lt
  have P1 := P0.below hc P0.lt
  have K1 := K0.below hc K0.lt
  clear hc hb0 HK S0 P0 K0
  obtain ⟨⟨j0, j1, j2⟩, _⟩ := K1.three
  go_wp2_with fail
  refine (U.out w1).mono ?_
  rintro e w2 ⟨rfl, hc⟩
  have hb2 := hb1.trans (hc.mono hb1.size)
  have S2 := S1.below hc S1.lt
  have P2 := P1.below hc P1.lt
  have K2 := K1.below hc K1.lt
  clear hc hb1 U S1 P1 K1 j0 j1 j2
  obtain ⟨⟨j0, j1, j2⟩, _⟩ := K2.three
  obtain ⟨⟨s0, s1, s2, s3⟩, _⟩ := S2.four
  go_wp2_with fail
  refine (F.out w2).mono ?_
  rintro e w3 ⟨rfl, hc⟩
  have hb3 := hb2.trans (hc.mono hb2.size)
  have P3 := P2.below hc P2.lt
  have K3 := K2.below hc K2.lt
  clear hc hb2 F S2 P2 K2 j0 j1 j2 s0 s1 s2 s3
  obtain ⟨⟨j0, j1, j2⟩, _⟩ := K3.three
  obtain ⟨⟨p0, p1, p2, p3⟩, _⟩ := P3.four
  go_wp2_with fail
  refine (D.out w3).mono ?_
  rintro e w4 ⟨rfl, hc⟩
  have hb4 := hb3.trans (hc.mono hb3.size)
  clear hc hb3 D P3 K3 j0 j1 j2 p0 p1 p2 p3
  go_wp2
  go_ret2
  exact ⟨by rw [HS.out]; rfl, hb4⟩

set_option maxHeartbeats 1600000 in
theorem specHeadRow_no (l b : Int) (a1 a2 : Option Addr) (c1 c2 : Nat) (xs ys : List Int) (q : Int) (g x c : Bool) (t f k : Int) (w : World) (h : SetIn w a1 a2 xs ys) (hh : headB l b xs ys q g x t f k = false) :
    Calls Tryd.prog 21 #[.agg #[.int .i64 l, .int .i64 b, .slice a1 xs.length c1, .slice a2 ys.length c2], .agg #[.int .i64 q, .bool g, .bool x, .bool c], .agg #[.int .i64 t, .int .i64 f, .int .i64 k]] w fun e w' => e = .returned (.tuple #[.string ⟨#[]⟩, .bool false]) ∧ Below w.heap.size w w' := by
  have HK : Hid (∀ w', Below w.heap.size w w' → Calls Tryd.prog 16 #[.agg #[.int .i64 l, .int .i64 b, .slice a1 xs.length c1, .slice a2 ys.length c2], .agg #[.int .i64 q, .bool g, .bool x, .bool c], .agg #[.int .i64 t, .int .i64 f, .int .i64 k]] w' fun e w'' => e = .returned (.bool false) ∧ Below w'.heap.size w' w'') := fun w' hb => by rw [← hh]; exact specHeadOk l b a1 a2 c1 c2 xs ys q g x c t f k w' (h.below hb (Nat.le_refl _))
  clear h hh
  go_enter Tryd.func21, Tryd.ntmps21
  go_wp2_with fail
  generalize hW : World.alloc (World.alloc (World.alloc w _) _) _ = W
  have hb0 : Below w.heap.size w W := by rw [← hW]; exact (((Below.refl _ _).alloc (Nat.le_refl _) _).alloc (by simp) _).alloc (by simp; omega) _
  clear hW
  refine (HK.out W hb0).mono ?_
  rintro e w1 ⟨rfl, hc⟩
  have hb1 := hb0.trans (hc.mono hb0.size)
  clear hc hb0 HK
  go_wp2
  go_ret2
  exact ⟨rfl, hb1⟩

set_option maxHeartbeats 1600000 in
theorem specHeadRow (l b : Int) (a1 a2 : Option Addr) (c1 c2 : Nat) (xs ys : List Int) (q : Int) (g x c : Bool) (t f k : Int) (w : World) (h : SetIn w a1 a2 xs ys) (hh : headB l b xs ys q g x t f k = true) :
    Calls Tryd.prog 21 #[.agg #[.int .i64 l, .int .i64 b, .slice a1 xs.length c1, .slice a2 ys.length c2], .agg #[.int .i64 q, .bool g, .bool x, .bool c], .agg #[.int .i64 t, .int .i64 f, .int .i64 k]] w fun e w' => e = .returned (.tuple #[.string (headS b.toNat t f (k - q)), .bool true]) ∧ Below w.heap.size w w' := by
  have HK : Hid (∀ w', Below w.heap.size w w' → Calls Tryd.prog 16 #[.agg #[.int .i64 l, .int .i64 b, .slice a1 xs.length c1, .slice a2 ys.length c2], .agg #[.int .i64 q, .bool g, .bool x, .bool c], .agg #[.int .i64 t, .int .i64 f, .int .i64 k]] w' fun e w'' => e = .returned (.bool true) ∧ Below w'.heap.size w' w'') := fun w' hb => by rw [← hh]; exact specHeadOk l b a1 a2 c1 c2 xs ys q g x c t f k w' (h.below hb (Nat.le_refl _))
  obtain ⟨hp, ⟨t0, t1⟩, ⟨f0, f1⟩, k0, k1⟩ := headB_true hh
  obtain ⟨_, _, y0, y1⟩ := seqB_true (headB_seq hh)
  obtain ⟨q0, q1⟩ := parB_bd hp
  have t2 := tilesI_bd l b xs ys
  obtain ⟨m, rfl⟩ : ∃ m : Nat, b = m := ⟨b.toNat, by omega⟩
  rw [Int.toNat_natCast] at f1 ⊢
  have U : Hid (∀ w', Calls Tryd.prog 47 #[.int .i64 t] w' fun e w'' => e = .returned (.string (ueS t)) ∧ Below w'.heap.size w' w'') := fun w' => specUe t w' t0 (by omega)
  have F : Hid (∀ w', Calls Tryd.prog 48 #[.int .i64 f, .int .i64 m] w' fun e w'' => e = .returned (.string (strOfNums (fixL f m))) ∧ Below w'.heap.size w' w'') := fun w' => specFix f m w' f0 (by have : (2 : Int) ^ m ≤ 2 ^ 8 := (by exact_mod_cast Nat.pow_le_pow_right (by decide) (by omega)); omega) (by omega)
  have D : Hid (∀ w', Calls Tryd.prog 49 #[.int .i64 (k - q)] w' fun e w'' => e = .returned (.string (ueS (seF (k - q)))) ∧ Below w'.heap.size w' w'') := fun w' => specSe (k - q) w' ⟨by omega, by omega⟩
  have z1 : (ueS t).size ≤ 41 := ueS_small t t0 (by omega)
  have z2 : (strOfNums (fixL f m)).size ≤ 8 := by rw [strOfNums_size, fixL_length]; omega
  have z3 : (ueS (seF (k - q))).size ≤ 41 := by
    have := seF_bd (k - q) ⟨by omega, by omega⟩
    exact ueS_small _ this.1 this.2
  have HS : Hid (headS m t f (k - q) = ueS t ++ strOfNums (fixL f m) ++ ueS (seF (k - q))) := rfl
  generalize headS m t f (k - q) = R at *
  generalize ueS t = X at *
  generalize strOfNums (fixL f m) = Y at *
  generalize ueS (seF (k - q)) = Z at *
  have e1 : ¬ (9223372036854775807 : Int) < ((X ++ Y).size : Int) := by rw [ByteArray.size_append]; omega
  have e2 : ¬ (9223372036854775807 : Int) < ((X ++ Y ++ Z).size : Int) := by rw [ByteArray.size_append, ByteArray.size_append]; omega
  clear h hh hp t0 t1 f0 f1
  go_enter Tryd.func21, Tryd.ntmps21
  go_wp2_with fail
  generalize hW : World.alloc (World.alloc (World.alloc w _) _) _ = W
  have S0 : Blk W w.heap.size #[.int .i64 l, .int .i64 m, .slice a1 xs.length c1, .slice a2 ys.length c2] 26 := by rw [← hW]; exact ((Blk.new w _ _).alloc _).alloc _
  have P0 : Blk W (w.heap.size + 1) #[.int .i64 q, .bool g, .bool x, .bool c] 28 := by rw [← hW]; exact (Blk.new' _ _ (by simp)).alloc _
  have K0 : Blk W (w.heap.size + 1 + 1) #[.int .i64 t, .int .i64 f, .int .i64 k] 30 := by rw [← hW]; exact Blk.new' _ _ (by simp)
  have hb0 : Below w.heap.size w W := by rw [← hW]; exact (((Below.refl _ _).alloc (Nat.le_refl _) _).alloc (by simp) _).alloc (by simp; omega) _
  clear hW
  refine (HK.out W hb0).mono ?_
  rintro e w1 ⟨rfl, hc⟩
  have hb1 := hb0.trans (hc.mono hb0.size)
  have S1 := S0.below hc S0.lt
  have P1 := P0.below hc P0.lt
  have K1 := K0.below hc K0.lt
  clear hc hb0 HK S0 P0 K0
  have KB : Hid (∀ W' : World, (Blk W' w.heap.size #[.int .i64 l, .int .i64 m, .slice a1 xs.length c1, .slice a2 ys.length c2] 26 ∧ Blk W' (w.heap.size + 1) #[.int .i64 q, .bool g, .bool x, .bool c] 28 ∧ Blk W' (w.heap.size + 1 + 1) #[.int .i64 t, .int .i64 f, .int .i64 k] 30) → (fun w' => (w'.cell? ⟨w.heap.size, 0, none⟩ = some (.int .i64 l) ∧ w'.cell? ⟨w.heap.size, 1, none⟩ = some (.int .i64 m) ∧ w'.cell? ⟨w.heap.size, 2, none⟩ = some (.slice a1 xs.length c1) ∧ w'.cell? ⟨w.heap.size, 3, none⟩ = some (.slice a2 ys.length c2)) ∧ (w'.cell? ⟨w.heap.size + 1, 0, none⟩ = some (.int .i64 q) ∧ w'.cell? ⟨w.heap.size + 1, 1, none⟩ = some (.bool g) ∧ w'.cell? ⟨w.heap.size + 1, 2, none⟩ = some (.bool x) ∧ w'.cell? ⟨w.heap.size + 1, 3, none⟩ = some (.bool c)) ∧ (w'.cell? ⟨w.heap.size + 1 + 1, 0, none⟩ = some (.int .i64 t) ∧ w'.cell? ⟨w.heap.size + 1 + 1, 1, none⟩ = some (.int .i64 f) ∧ w'.cell? ⟨w.heap.size + 1 + 1, 2, none⟩ = some (.int .i64 k))) W') := fun W' h => ⟨h.1.four.1, h.2.1.four.1, h.2.2.three.1⟩
  have BB : Hid (∀ W' W'' : World, (Blk W' w.heap.size #[.int .i64 l, .int .i64 m, .slice a1 xs.length c1, .slice a2 ys.length c2] 26 ∧ Blk W' (w.heap.size + 1) #[.int .i64 q, .bool g, .bool x, .bool c] 28 ∧ Blk W' (w.heap.size + 1 + 1) #[.int .i64 t, .int .i64 f, .int .i64 k] 30) → Below W'.heap.size W' W'' → (Blk W'' w.heap.size #[.int .i64 l, .int .i64 m, .slice a1 xs.length c1, .slice a2 ys.length c2] 26 ∧ Blk W'' (w.heap.size + 1) #[.int .i64 q, .bool g, .bool x, .bool c] 28 ∧ Blk W'' (w.heap.size + 1 + 1) #[.int .i64 t, .int .i64 f, .int .i64 k] 30)) := fun W' W'' h hb => ⟨h.1.below hb h.1.lt, h.2.1.below hb h.2.1.lt, h.2.2.below hb h.2.2.lt⟩
  have BD : (Blk w1.drew w.heap.size #[.int .i64 l, .int .i64 m, .slice a1 xs.length c1, .slice a2 ys.length c2] 26 ∧ Blk w1.drew (w.heap.size + 1) #[.int .i64 q, .bool g, .bool x, .bool c] 28 ∧ Blk w1.drew (w.heap.size + 1 + 1) #[.int .i64 t, .int .i64 f, .int .i64 k] 30) := ⟨S1.drew, P1.drew, K1.drew⟩
  have K00 := KB.out _ BD
  have hbD := hb1.drew
  have wq : IntKind.i64.wrap (k - q) = k - q := IntWalk.i64_in _ ⟨by omega, by omega⟩
  have e3 : ¬ 9223372036854775807 < X.size + Y.size := by omega
  have e4 : ¬ 9223372036854775807 < (X ++ Y).size + Z.size := by rw [ByteArray.size_append]; omega
  have e5 : ¬ 9223372036854775807 < X.size + Y.size + Z.size := by omega
  clear S1 P1 K1 hb1
  go_wp2_with fail
  go_region_held3 (fun w' => (w'.cell? ⟨w.heap.size, 0, none⟩ = some (.int .i64 l) ∧ w'.cell? ⟨w.heap.size, 1, none⟩ = some (.int .i64 m) ∧ w'.cell? ⟨w.heap.size, 2, none⟩ = some (.slice a1 xs.length c1) ∧ w'.cell? ⟨w.heap.size, 3, none⟩ = some (.slice a2 ys.length c2)) ∧ (w'.cell? ⟨w.heap.size + 1, 0, none⟩ = some (.int .i64 q) ∧ w'.cell? ⟨w.heap.size + 1, 1, none⟩ = some (.bool g) ∧ w'.cell? ⟨w.heap.size + 1, 2, none⟩ = some (.bool x) ∧ w'.cell? ⟨w.heap.size + 1, 3, none⟩ = some (.bool c)) ∧ (w'.cell? ⟨w.heap.size + 1 + 1, 0, none⟩ = some (.int .i64 t) ∧ w'.cell? ⟨w.heap.size + 1 + 1, 1, none⟩ = some (.int .i64 f) ∧ w'.cell? ⟨w.heap.size + 1 + 1, 2, none⟩ = some (.int .i64 k)))
    (first | (with_reducible exact K00) | (with_reducible exact K01) | (with_reducible exact K02) | (with_reducible exact K03))
    (first
      | (go_at_call 47; refine (U.out _).mono ?_; rintro e w2 ⟨rfl, hc2⟩; have hb2 := hbD.trans (hc2.mono hbD.size); have B2 := BB.out _ _ BD hc2; have K01 := KB.out _ B2)
      | (go_at_call 48; refine (F.out _).mono ?_; rintro e w3 ⟨rfl, hc3⟩; have hb3 := hb2.trans (hc3.mono hb2.size); have B3 := BB.out _ _ B2 hc3; have K02 := KB.out _ B3)
      | (go_at_call 49; refine (D.out _).mono ?_; rintro e w4 ⟨rfl, hc4⟩; have hb4 := hb3.trans (hc4.mono hb3.size); have B4 := BB.out _ _ B3 hc4; have K03 := KB.out _ B4))
  all_goals
    go_wp2
    go_ret2
    exact ⟨by rw [HS.out]; rfl, hb4⟩
end Go.Proofs.YtdokmojifkggjaaDoor

namespace Go.Proofs.YtdokmojifkggjaaDoor
open Go.RowKit
set_option linter.unusedVariables false
set_option maxRecDepth 20000

/-- What a reader of one number answers. -/
abbrev Ans (f : Nat) (args : Array Value) (n e : Int) (ok : Bool) : Prop := ∀ w : World, Calls Tryd.prog f args w fun r w' => r = .returned (.tuple #[.int .i64 n, .int .i64 e, .bool ok]) ∧ w' = w

/-- The number that is counted at a place, of both, as it is and with a sign. -/
theorem cnt_letters (s : ByteArray) (a : Nat) (hr : rowOkB s = true) (ha : a ≤ s.size) : ∃ (n d e : Int) (ok : Bool),
    Hid (Ans 64 #[.int .i64 0, .string s, .int .i64 a] n e ok) ∧ Hid (Ans 52 #[.string s, .int .i64 a] n e ok) ∧
    Hid (Ans 64 #[.int .i64 1, .string s, .int .i64 a] d e ok) ∧ Hid (Ans 54 #[.string s, .int .i64 a] d e ok) ∧
    (ok = true → ∃ (p : Nat), e = (p : Int) ∧ p ≤ s.size ∧ -500000 ≤ d ∧ d ≤ 500000) ∧ (∀ z m, Counted s a z m → n = m ∧ d = seO m ∧ e = (a : Int) + (z : Int) + ((z : Int) + 1) ∧ ok = true) := by
  by_cases h : ∃ z m, Counted s a z m
  · obtain ⟨z, m, hc⟩ := h
    have hl := hc.low hr
    have ht := hc.top
    have hf := hc.fits
    refine ⟨m, seO m, _, true, fun w => implReadAt 0 (fun u => u) s a z m w opens_ue hr hc, fun w => specReadAt s a z m w hr hc, fun w => implReadAt 1 seO s a z m w opens_se hr hc, fun w => specSeAt s a z m w hr hc, fun _ => ⟨a + z + (z + 1), by omega, hf, ?_⟩, fun y k hy => ?_⟩
    · unfold seO; split <;> omega
    · obtain ⟨rfl, rfl⟩ := hc.uniq hy
      exact ⟨rfl, rfl, rfl, rfl⟩
  · have hn : CountedNot s a := fun z m hc => h ⟨z, m, hc⟩
    exact ⟨0, 0, 0, false, fun w => implReadAtNo 0 s a w opens_ue_no hr (by omega) hn, fun w => specReadAtNo s a w hr (by omega) hn, fun w => implReadAtNo 1 s a w opens_se_no hr (by omega) hn, fun w => specSeAtNo s a w hr (by omega) hn, by simp, fun z m hc => absurd hc (hn z m)⟩

/-- The number of a width that stands at a place, of both. -/
theorem fix_letters (s : ByteArray) (a : Nat) (b : Int) (hr : rowOkB s = true) (ha : a ≤ s.size) : ∃ (n e : Int) (ok : Bool),
    Hid (Ans 65 #[.string s, .int .i64 a, .int .i64 b] n e ok) ∧ (3 ≤ b → b ≤ 8 → Hid (Ans 53 #[.string s, .int .i64 a, .int .i64 b] n e ok)) ∧
    (ok = true → ∃ (p : Nat), e = (p : Int) ∧ p ≤ s.size) ∧ (∀ m : Nat, b = m → m ≤ 30 → a + m ≤ s.size → n = readN s a m ∧ e = (a : Int) + (m : Int) ∧ ok = true) := by
  have h4 := (rowOkB_true s hr).1
  by_cases h : 0 ≤ b ∧ b ≤ 30 ∧ (a : Int) + b ≤ (s.size : Int)
  · obtain ⟨m, rfl⟩ : ∃ m : Nat, b = m := ⟨b.toNat, by omega⟩
    refine ⟨readN s a m, _, true, fun w => implAt s a m w hr (by omega) (by omega), fun _ _ w => specRead s a m w hr (by omega) (by omega), fun _ => ⟨a + m, by omega, by omega⟩, fun k hk _ _ => ?_⟩
    obtain rfl : m = k := by omega
    exact ⟨rfl, rfl, rfl⟩
  · refine ⟨0, 0, false, fun w => implAtNo s a b w (by omega) (by omega) (by omega) (by omega), fun y0 y1 w => ?_, by simp, fun m hm h1 h2 => by omega⟩
    obtain ⟨m, rfl⟩ : ∃ m : Nat, b = m := ⟨b.toNat, by omega⟩
    exact specRead_no s a m w (by omega) (by omega) (by omega) (by omega)

/-- A head and what follows, or nothing. -/
def hdV (t f k e : Int) : Bool → Value
  | true => .tuple #[.agg #[.int .i64 t, .int .i64 f, .int .i64 k], .int .i64 e, .bool true]
  | false => .tuple #[.agg #[.int .i64 0, .int .i64 0, .int .i64 0], .int .i64 0, .bool false]

set_option maxHeartbeats 1600000 in
theorem implHeadAt_no1 (l b : Int) (v1 v2 : Value) (q : Int) (g x c : Bool) (s : ByteArray) (w : World) (n1 e1 : Int) (C1 : Hid (Ans 64 #[.int .i64 0, .string s, .int .i64 0] n1 e1 false)) :
    Calls Tryd.prog 37 #[.agg #[.int .i64 l, .int .i64 b, v1, v2], .agg #[.int .i64 q, .bool g, .bool x, .bool c], .string s] w fun e w' => e = .returned (hdV 0 0 0 0 false) ∧ Below w.heap.size w w' := by
  go_enter Tryd.func37, Tryd.ntmps37
  go_wp2_with fail
  refine (C1.out _).mono ?_
  rintro e w1 ⟨rfl, hw⟩
  subst w1
  go_wp2
  (try simp only [Exit.inBlock, Exit.then])
  refine bodyPost_ret (results_cell_two rfl _ _ (w.heap.size + 1 + 1) 30 _ (0, 0) _ rfl (Blk.new' _ _ (by simp)) Tryd.underlying30 rfl (by kernel_rfl)) rfl ?_
  exact ⟨rfl, by go_grown⟩

set_option maxHeartbeats 1600000 in
theorem implHeadAt_no2 (l b : Int) (v1 v2 : Value) (q : Int) (g x c : Bool) (s : ByteArray) (w : World) (n1 e1 : Int) (C1 : Hid (Ans 64 #[.int .i64 0, .string s, .int .i64 0] n1 e1 true)) (n2 e2 : Int) (C2 : Hid (Ans 65 #[.string s, .int .i64 e1, .int .i64 b] n2 e2 false)) :
    Calls Tryd.prog 37 #[.agg #[.int .i64 l, .int .i64 b, v1, v2], .agg #[.int .i64 q, .bool g, .bool x, .bool c], .string s] w fun e w' => e = .returned (hdV 0 0 0 0 false) ∧ Below w.heap.size w w' := by
  go_enter Tryd.func37, Tryd.ntmps37
  go_wp2_with fail
  refine (C1.out _).mono ?_
  rintro e w1 ⟨rfl, hw⟩
  subst w1
  go_wp2_with fail
  refine (C2.out _).mono ?_
  rintro e w1 ⟨rfl, hw⟩
  subst w1
  go_wp2
  (try simp only [Exit.inBlock, Exit.then])
  refine bodyPost_ret (results_cell_two rfl _ _ (w.heap.size + 1 + 1) 30 _ (0, 0) _ rfl (Blk.new' _ _ (by simp)) Tryd.underlying30 rfl (by kernel_rfl)) rfl ?_
  exact ⟨rfl, by go_grown⟩

set_option maxHeartbeats 1600000 in
theorem implHeadAt_no3 (l b : Int) (v1 v2 : Value) (q : Int) (g x c : Bool) (s : ByteArray) (w : World) (n1 e1 : Int) (C1 : Hid (Ans 64 #[.int .i64 0, .string s, .int .i64 0] n1 e1 true)) (n2 e2 : Int) (C2 : Hid (Ans 65 #[.string s, .int .i64 e1, .int .i64 b] n2 e2 true)) (n3 e3 : Int) (C3 : Hid (Ans 64 #[.int .i64 1, .string s, .int .i64 e2] n3 e3 false)) :
    Calls Tryd.prog 37 #[.agg #[.int .i64 l, .int .i64 b, v1, v2], .agg #[.int .i64 q, .bool g, .bool x, .bool c], .string s] w fun e w' => e = .returned (hdV 0 0 0 0 false) ∧ Below w.heap.size w w' := by
  go_enter Tryd.func37, Tryd.ntmps37
  go_wp2_with fail
  refine (C1.out _).mono ?_
  rintro e w1 ⟨rfl, hw⟩
  subst w1
  go_wp2_with fail
  refine (C2.out _).mono ?_
  rintro e w1 ⟨rfl, hw⟩
  subst w1
  go_wp2_with fail
  refine (C3.out _).mono ?_
  rintro e w1 ⟨rfl, hw⟩
  subst w1
  go_wp2
  (try simp only [Exit.inBlock, Exit.then])
  refine bodyPost_ret (results_cell_two rfl _ _ (w.heap.size + 1 + 1) 30 _ (0, 0) _ rfl (Blk.new' _ _ (by simp)) Tryd.underlying30 rfl (by kernel_rfl)) rfl ?_
  exact ⟨rfl, by go_grown⟩

set_option maxHeartbeats 1600000 in
theorem implHeadAt_yes (l b : Int) (v1 v2 : Value) (q : Int) (g x c : Bool) (s : ByteArray) (w : World) (n1 e1 : Int) (C1 : Hid (Ans 64 #[.int .i64 0, .string s, .int .i64 0] n1 e1 true)) (n2 e2 : Int) (C2 : Hid (Ans 65 #[.string s, .int .i64 e1, .int .i64 b] n2 e2 true)) (n3 e3 : Int) (C3 : Hid (Ans 64 #[.int .i64 1, .string s, .int .i64 e2] n3 e3 true)) (k : Int) (hk : wrap64 (q + n3) = k) :
    Calls Tryd.prog 37 #[.agg #[.int .i64 l, .int .i64 b, v1, v2], .agg #[.int .i64 q, .bool g, .bool x, .bool c], .string s] w fun e w' => e = .returned (hdV n1 n2 k e3 true) ∧ Below w.heap.size w w' := by
  go_enter Tryd.func37, Tryd.ntmps37
  go_wp2_with fail
  refine (C1.out _).mono ?_
  rintro e w1 ⟨rfl, hw⟩
  subst w1
  go_wp2_with fail
  refine (C2.out _).mono ?_
  rintro e w1 ⟨rfl, hw⟩
  subst w1
  go_wp2_with fail
  refine (C3.out _).mono ?_
  rintro e w1 ⟨rfl, hw⟩
  subst w1
  go_wp2
  (try simp only [Exit.inBlock, Exit.then])
  refine bodyPost_ret (results_cell_two rfl _ _ (w.heap.size + 1 + 1) 30 _ (0, 0) _ rfl (Blk.new' _ _ (by simp)) Tryd.underlying30 rfl (by kernel_rfl)) rfl ?_
  exact ⟨rfl, by go_grown⟩

end Go.Proofs.YtdokmojifkggjaaDoor

namespace Go.Proofs.YtdokmojifkggjaaDoor
open Go.RowKit
set_option linter.unusedVariables false
set_option maxRecDepth 20000

/-- A head's block that is filled anew. -/
theorem zFill {w w' : World} {g : Nat} {v0 v1 v2 : Value} (h : Blk w' g #[v0, v1, v2] 30) (hb : Below w.heap.size w w') (hg : w.heap.size ≤ g) (t f k : Int) :
    Blk (((w'.setCell ⟨g, 0, none⟩ (.int .i64 t)).setCell ⟨g, 1, none⟩ (.int .i64 f)).setCell ⟨g, 2, none⟩ (.int .i64 k)) g #[.int .i64 t, .int .i64 f, .int .i64 k] 30 ∧
      Below w.heap.size w (((w'.setCell ⟨g, 0, none⟩ (.int .i64 t)).setCell ⟨g, 1, none⟩ (.int .i64 f)).setCell ⟨g, 2, none⟩ (.int .i64 k)) :=
  ⟨((h.set 0 (.int .i64 t) (by simp)).set 1 (.int .i64 f) (by simp)).set 2 (.int .i64 k) (by simp), by go_grown⟩

set_option maxHeartbeats 1600000 in
theorem implReadHead_row (l b : Int) (v1 v2 : Value) (q : Int) (g x c : Bool) (s : ByteArray) (w : World) (hm : s.size ≤ maxLen) (hr : rowOkB s = false) :
    Calls Tryd.prog 13 #[.agg #[.int .i64 l, .int .i64 b, v1, v2], .agg #[.int .i64 q, .bool g, .bool x, .bool c], .string s] w fun e w' => e = .returned (hdV 0 0 0 0 false) ∧ Below w.heap.size w w' := by
  have HR : Hid (∀ w', Calls Tryd.prog 36 #[.string s] w' fun e w'' => e = .returned (.bool false) ∧ w'' = w') := fun w' => by rw [← hr]; exact implRowOk s w' hm
  clear hr hm
  go_enter Tryd.func13, Tryd.ntmps13
  go_wp2_with (go_at_call 36; refine (HR.out _).mono ?_; rintro e w1 ⟨rfl, hw⟩; subst w1)
  (try simp only [Exit.inBlock, Exit.then])
  refine bodyPost_ret (results_cell_two rfl _ _ (w.heap.size + 1 + 1) 30 _ (0, 0) _ rfl (Blk.new' _ _ (by simp)) Tryd.underlying30 rfl (by kernel_rfl)) rfl ?_
  exact ⟨rfl, by go_grown⟩

set_option maxHeartbeats 1600000 in
theorem implReadHead_none (l b : Int) (v1 v2 : Value) (q : Int) (g x c : Bool) (s : ByteArray) (w : World) (hr : rowOkB s = true)
    (CA : Hid (∀ w', Calls Tryd.prog 37 #[.agg #[.int .i64 l, .int .i64 b, v1, v2], .agg #[.int .i64 q, .bool g, .bool x, .bool c], .string s] w' fun e w'' => e = .returned (.tuple #[.agg #[.int .i64 0, .int .i64 0, .int .i64 0], .int .i64 0, .bool false]) ∧ Below w'.heap.size w' w'')) :
    Calls Tryd.prog 13 #[.agg #[.int .i64 l, .int .i64 b, v1, v2], .agg #[.int .i64 q, .bool g, .bool x, .bool c], .string s] w fun e w' => e = .returned (hdV 0 0 0 0 false) ∧ Below w.heap.size w w' := by
  have HR : Hid (∀ w', Calls Tryd.prog 36 #[.string s] w' fun e w'' => e = .returned (.bool true) ∧ w'' = w') := fun w' => by rw [← hr]; exact implRowOk s w' (by have := (rowOkB_true s hr).1; unfold maxLen; omega)
  clear hr
  go_enter Tryd.func13, Tryd.ntmps13
  go_wp2_with (go_at_call 36; refine (HR.out _).mono ?_; rintro e w1 ⟨rfl, hw⟩; subst w1)
  generalize hW : World.alloc (World.alloc (World.alloc w _) _) _ = W
  have Z0 : Blk W (w.heap.size + 1 + 1) #[.int .i64 0, .int .i64 0, .int .i64 0] 30 := by rw [← hW]; exact Blk.new' _ _ (by simp)
  have hb0 : Below w.heap.size w W := by rw [← hW]; exact (((Below.refl _ _).alloc (Nat.le_refl _) _).alloc (by simp) _).alloc (by simp; omega) _
  clear hW
  refine (CA.out W).mono ?_
  rintro e w1 ⟨rfl, hc⟩
  have hb1 := hb0.trans (hc.mono hb0.size)
  have Z1 := Z0.below hc Z0.lt
  clear hc hb0 Z0 CA HR
  have Z2 := Z1.alloc (.cells #[.int .i64 0, .int .i64 0, .int .i64 0] 30)
  have hb2 := hb1.alloc hb1.size (.cells #[.int .i64 0, .int .i64 0, .int .i64 0] 30)
  have F2 : Hid (Blk _ _ _ _ ∧ Below w.heap.size w _) := zFill Z2 hb2 (by omega) 0 0 0
  obtain ⟨⟨z0, z1, z2⟩, f0, f1, f2⟩ := Z2.three
  clear hb1 Z1 hb2 Z2
  go_wp2
  (try simp only [Exit.inBlock, Exit.then])
  refine bodyPost_ret (results_cell_two rfl _ _ (w.heap.size + 1 + 1) 30 _ (0, 0) _ rfl F2.out.1 Tryd.underlying30 rfl (by kernel_rfl)) rfl ?_
  exact ⟨rfl, F2.out.2⟩

set_option maxHeartbeats 1600000 in
theorem implReadHead_any (l b : Int) (a1 a2 : Option Addr) (c1 c2 : Nat) (xs ys : List Int) (q : Int) (g x c : Bool) (s : ByteArray) (w : World) (h : SetIn w a1 a2 xs ys) (hr : rowOkB s = true) (t f k n : Int)
    (CA : Hid (∀ w', Calls Tryd.prog 37 #[.agg #[.int .i64 l, .int .i64 b, .slice a1 xs.length c1, .slice a2 ys.length c2], .agg #[.int .i64 q, .bool g, .bool x, .bool c], .string s] w' fun e w'' => e = .returned (.tuple #[.agg #[.int .i64 t, .int .i64 f, .int .i64 k], .int .i64 n, .bool true]) ∧ Below w'.heap.size w' w'')) :
    Calls Tryd.prog 13 #[.agg #[.int .i64 l, .int .i64 b, .slice a1 xs.length c1, .slice a2 ys.length c2], .agg #[.int .i64 q, .bool g, .bool x, .bool c], .string s] w fun e w' => e = .returned (hdV t f k n (headB l b xs ys q g x t f k)) ∧ Below w.heap.size w w' := by
  have HR : Hid (∀ w', Calls Tryd.prog 36 #[.string s] w' fun e w'' => e = .returned (.bool true) ∧ w'' = w') := fun w' => by rw [← hr]; exact implRowOk s w' (by have := (rowOkB_true s hr).1; unfold maxLen; omega)
  have HK : Hid (∀ w', Below w.heap.size w w' → Calls Tryd.prog 14 #[.agg #[.int .i64 l, .int .i64 b, .slice a1 xs.length c1, .slice a2 ys.length c2], .agg #[.int .i64 q, .bool g, .bool x, .bool c], .agg #[.int .i64 t, .int .i64 f, .int .i64 k]] w' fun e w'' => e = .returned (.bool (headB l b xs ys q g x t f k)) ∧ Below w'.heap.size w' w'') := fun w' hb => implHeadOk l b a1 a2 c1 c2 xs ys q g x c t f k w' (h.below hb (Nat.le_refl _))
  generalize headB l b xs ys q g x t f k = r at *
  clear hr h
  go_enter Tryd.func13, Tryd.ntmps13
  go_wp2_with (go_at_call 36; refine (HR.out _).mono ?_; rintro e w1 ⟨rfl, hw⟩; subst w1)
  generalize hW : World.alloc (World.alloc (World.alloc w _) _) _ = W
  have hs : W.heap.size = w.heap.size + 3 := by rw [← hW]; simp
  have S0 : Blk W w.heap.size #[.int .i64 l, .int .i64 b, .slice a1 xs.length c1, .slice a2 ys.length c2] 26 := by rw [← hW]; exact ((Blk.new w _ _).alloc _).alloc _
  have P0 : Blk W (w.heap.size + 1) #[.int .i64 q, .bool g, .bool x, .bool c] 28 := by rw [← hW]; exact (Blk.new' _ _ (by simp)).alloc _
  have Z0 : Blk W (w.heap.size + 1 + 1) #[.int .i64 0, .int .i64 0, .int .i64 0] 30 := by rw [← hW]; exact Blk.new' _ _ (by simp)
  have hb0 : Below w.heap.size w W := by rw [← hW]; exact (((Below.refl _ _).alloc (Nat.le_refl _) _).alloc (by simp) _).alloc (by simp; omega) _
  clear hW
  refine (CA.out W).mono ?_
  rintro e w1 ⟨rfl, hc⟩
  have hb1 := hb0.trans (hc.mono hb0.size)
  have S1 := (S0.below hc S0.lt).alloc (.cells #[.int .i64 t, .int .i64 f, .int .i64 k] 30)
  have P1 := (P0.below hc P0.lt).alloc (.cells #[.int .i64 t, .int .i64 f, .int .i64 k] 30)
  have Z1 := (Z0.below hc Z0.lt).alloc (.cells #[.int .i64 t, .int .i64 f, .int .i64 k] 30)
  have H1 := Blk.new w1 #[.int .i64 t, .int .i64 f, .int .i64 k] 30
  have hb2 := hb1.alloc hb1.size (.cells #[.int .i64 t, .int .i64 f, .int .i64 k] 30)
  have hg1 : w.heap.size + 1 + 1 < w1.heap.size := by have := hc.size; omega
  clear hc hb0 S0 P0 Z0 CA HR hb1
  obtain ⟨⟨s0, s1, s2, s3⟩, _⟩ := S1.four
  obtain ⟨⟨p0, p1, p2, p3⟩, _⟩ := P1.four
  obtain ⟨⟨j0, j1, j2⟩, _⟩ := H1.three
  go_wp2_with fail
  generalize w1.alloc _ = w2 at *
  generalize w1.heap.size = gh at *
  refine (HK.out w2 hb2).mono ?_
  rintro e w3 ⟨rfl, hc⟩
  have hb3 := hb2.trans (hc.mono hb2.size)
  have Z3 := Z1.below hc Z1.lt
  have H3 := H1.below hc H1.lt
  clear hc hb2 S1 P1 Z1 H1 HK s0 s1 s2 s3 p0 p1 p2 p3 j0 j1 j2
  obtain ⟨⟨z0, z1, z2⟩, f0, f1, f2⟩ := Z3.three
  obtain ⟨⟨j0, j1, j2⟩, _⟩ := H3.three
  cases r with
  | false =>
    have F3 : Hid (Blk _ _ _ _ ∧ Below w.heap.size w _) := zFill Z3 hb3 (by omega) 0 0 0
    clear Z3 H3 hb3
    go_wp2
    (try simp only [Exit.inBlock, Exit.then])
    refine bodyPost_ret (results_cell_two rfl _ _ (w.heap.size + 1 + 1) 30 _ (0, 0) _ rfl F3.out.1 Tryd.underlying30 rfl (by kernel_rfl)) rfl ?_
    exact ⟨rfl, F3.out.2⟩
  | true =>
    have F3 : Hid (Blk _ _ _ _ ∧ Below w.heap.size w _) := zFill Z3 hb3 (by omega) t f k
    clear Z3 H3 hb3
    go_wp2
    (try simp only [Exit.inBlock, Exit.then])
    refine bodyPost_ret (results_cell_two rfl _ _ (w.heap.size + 1 + 1) 30 _ (0, 0) _ rfl F3.out.1 Tryd.underlying30 rfl (by kernel_rfl)) rfl ?_
    exact ⟨rfl, F3.out.2⟩
end Go.Proofs.YtdokmojifkggjaaDoor
