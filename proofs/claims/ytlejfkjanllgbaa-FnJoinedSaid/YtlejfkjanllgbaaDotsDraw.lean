/-
  Drawn dots with their values: the walks of spec.l12Dots, spec.l13Ints and spec.l01PickInt.
-/
import Derived.Test.YtlejfkjanllgbaaDrawVal
import Derived.Test.YtlejfkjanllgbaaDrawOwn
import Derived.Test.YtlejfkjanllgbaaAllKit
import Derived.Test.YtlejfkjanllgbaaOwnKit
import Derived.Test.YtlejfkjanllgbaaEdgeMath
import Derived.Test.YtlejfkjanllgbaaNumKit
import Derived.Test.YtlejfkjanllgbaaSqKit
namespace Go.Proofs.Ytlejfkjanllgbaa
open Go.RowKit
set_option linter.unusedVariables false
set_option maxRecDepth 20000

/-- The dots that are drawn from a dot on, and the state behind them. -/
def dotsG (zs : List Int) : Nat → Int → (Nat × Int) → List Int × (Nat × Int)
  | 0, _, S => ([], S)
  | n + 1, x, S =>
    if (belF zs 6 S).1 = 0 then ((byteF zs (belF zs 6 S).2).1 :: (dotsG zs n (byteF zs (belF zs 6 S).2).1 (byteF zs (belF zs 6 S).2).2).1, (dotsG zs n (byteF zs (belF zs 6 S).2).1 (byteF zs (belF zs 6 S).2).2).2)
    else if (belF zs 6 S).1 = 1 then ((x + (belF zs 9 (belF zs 6 S).2).1 + 252) % 256 :: (dotsG zs n ((x + (belF zs 9 (belF zs 6 S).2).1 + 252) % 256) (belF zs 9 (belF zs 6 S).2).2).1, (dotsG zs n ((x + (belF zs 9 (belF zs 6 S).2).1 + 252) % 256) (belF zs 9 (belF zs 6 S).2).2).2)
    else (x :: (dotsG zs n x (belF zs 6 S).2).1, (dotsG zs n x (belF zs 6 S).2).2)
def dotsF (zs : List Int) (n : Nat) (S : Nat × Int) : List Int × (Nat × Int) := dotsG zs n (byteF zs S).1 (byteF zs S).2
theorem dotsG_len (zs : List Int) : ∀ (n : Nat) (x : Int) (S : Nat × Int), (dotsG zs n x S).1.length = n
  | 0, _, _ => rfl
  | n + 1, x, S => by
    rw [dotsG]
    split
    · simp [dotsG_len zs n]
    · split
      · simp [dotsG_len zs n]
      · simp [dotsG_len zs n]
theorem dotsF_len (zs : List Int) (n : Nat) (S : Nat × Int) : (dotsF zs n S).1.length = n := dotsG_len zs n _ _

theorem cur_on {w wr w1 w2 : World} {g : Nat} {a : Option Addr} {len e n : Nat} {v : Value} {xs : List Value} {o : Obj} {S : Nat × Int}
    (hgr : w.grownBy wr (some g)) (hown : wr.ownsRow w.heap.size e 1 v n xs) (hgw : g < w.heap.size) (hk : CurTo wr w1 g a len S)
    (hgrow : (w1.alloc o).grownBy w2 v.ownBlock) : CurV w2 g a len S ∧ w.grownBy w2 (some g) := by
  have hown' := hown.kept hk.2 (.inr (fun h => by have := (hown.lt g h).1; omega))
  exact ⟨(hk.1.kept (World.grownBy_alloc w1 o none) (by simp)).kept hgrow (fun h => by have := (hown'.lt g h.symm).1; omega),
    ((hgr.trans hk.2).trans (World.grownBy_alloc w1 o _)).andThen hgrow (fun k hk' => .inl (hown'.lt k hk').1)⟩

set_option maxHeartbeats 3200000 in
theorem dots_val (g : Nat) (a : Option Addr) (zs : List Int) (B n : Nat) (S : Nat × Int) (w : World) (hc : CodeV w B a zs) (hB : B ≤ g) (hcur : CurV w g a zs.length S) (hn : (n : Int) ≤ 100000) :
    Calls Try.prog 19 #[.pointer (some ⟨g, 0, none⟩), .int .i64 (n : Int)] w fun e w' => e = .returned (.string (strOfNums (dotsF zs n S).1)) ∧ CurTo w w' g a zs.length (dotsF zs n S).2 := by
  obtain ⟨i0, hi0, hz0, hz1, hz2⟩ := info_parts infoB
  have hgw := hcur.lt
  have HC : Hid (∀ w', w.grownBy w' (some g) → CodeV w' B a zs) := fun w' h => hc.below (below_of_grown h (by omega) (fun k hk => by cases hk; exact hB))
  have ha := i64_and255
  obtain ⟨X, ST, HXS⟩ : ∃ X ST, Hid (dotsF zs n S = (X, ST)) := ⟨_, _, rfl⟩
  have HD0 : Hid (dotsF zs n S = dotsG zs n (byteF zs S).1 (byteF zs S).2) := rfl
  obtain ⟨bx0, bx1⟩ := byteF_bd zs S
  have hg1 : w.grownBy (w.alloc (.cells #[] 5)) (some g) := World.grownBy_alloc w _ _
  have HB0 : Hid (Calls _ _ _ _ _) := byte_val g a zs B S _ (HC.out _ hg1) hB (hcur.kept (World.grownBy_alloc w (.cells #[] 5) none) (by simp))
  have HE : Hid ((dotsF zs n S).1 = X ∧ (dotsF zs n S).2 = ST) := by show _ ∧ _; rw [HXS.out]; exact ⟨rfl, rfl⟩
  have hE1 := HE.out.1
  have hE2 := HE.out.2
  rw [hE1, hE2]
  clear hE1 hE2 hc
  generalize (byteF zs S).1 = x0 at *
  generalize (byteF zs S).2 = S0 at *
  have HG : Hid ((dotsG zs n x0 S0).1 = X ∧ (dotsG zs n x0 S0).2 = ST) := by show _ ∧ _; rw [← HD0.out]; exact HE.out
  clear HE HD0 HXS hcur
  go_enter Try.func19, Try.ntmps19
  go_wp2_with fail
  refine HB0.out.mono ?_
  rintro e w0 ⟨rfl, hk0⟩
  have hgr0 : w.grownBy w0 (some g) := hg1.trans hk0.2
  have o0 : (w.alloc (.cells #[] 5)).ownsRow w.heap.size 5 1 (.slice (some ⟨w.heap.size, 0, none⟩) 0 0) 0 (([] : List Int).map (Value.int .u8)) := World.ownsRow_lit w #[] 0 (Nat.le_refl _) (by unfold maxLen; omega) rfl
  have o1 : w0.ownsRow w.heap.size 5 1 (.slice (some ⟨w.heap.size, 0, none⟩) 0 0) 0 (([] : List Int).map (Value.int .u8)) := o0.kept hk0.2 (.inr fun h => by have := (o0.lt g h).1; omega)
  have hcr0 := hk0.1
  clear o0 hk0 HB0 hg1
  go_wp2
  go_loopw [5, 6, 7] (fun v x i wr => ∃ (k : Nat) (l : List Int) (y : Int) (S' : Nat × Int), k ≤ n ∧ i = .int .i64 (k : Int) ∧ x = .int .i64 y ∧ 0 ≤ y ∧ y ≤ 255 ∧ Hid (l.length = k ∧ l ++ (dotsG zs (n - k) y S').1 = X ∧ (dotsG zs (n - k) y S').2 = ST) ∧ wr.ownsRow w.heap.size 5 1 v k (l.map (Value.int .u8)) ∧ CurV wr g a zs.length S' ∧ w.grownBy wr (some g))
    (fun _ _ i _ => n - (intOf i).toNat)
  case atStart => exact ⟨0, [], x0, S0, Nat.zero_le _, rfl, rfl, bx0, bx1, ⟨rfl, HG.out.1, HG.out.2⟩, o1, hcr0, hgr0⟩
  case round =>
    obtain ⟨k, l, y, S', hk, rfl, rfl, hy0, hy1, HL, hown, hcr, hgr⟩ := hrel
    clear o1 hcr0 hgr0 HG
    have l0 : (0 : Int) ≤ (k : Int) := by omega
    by_cases hlt : k < n
    · have l1 : (k : Int) < (n : Int) := by omega
      have hcw := HC.out wr hgr
      have hsz0 := hgr.size
      obtain ⟨z0, z1⟩ := belF_bd zs 6 S' (by omega)
      have HB6 : Hid (Calls _ _ _ _ _) := below_val g a zs B 6 S' wr hcw hB hcr (by omega) (by omega)
      have HS : Hid (dotsG zs (n - k) y S' = if (belF zs 6 S').1 = 0 then ((byteF zs (belF zs 6 S').2).1 :: (dotsG zs (n - (k + 1)) (byteF zs (belF zs 6 S').2).1 (byteF zs (belF zs 6 S').2).2).1, (dotsG zs (n - (k + 1)) (byteF zs (belF zs 6 S').2).1 (byteF zs (belF zs 6 S').2).2).2)
          else if (belF zs 6 S').1 = 1 then ((y + (belF zs 9 (belF zs 6 S').2).1 + 252) % 256 :: (dotsG zs (n - (k + 1)) ((y + (belF zs 9 (belF zs 6 S').2).1 + 252) % 256) (belF zs 9 (belF zs 6 S').2).2).1, (dotsG zs (n - (k + 1)) ((y + (belF zs 9 (belF zs 6 S').2).1 + 252) % 256) (belF zs 9 (belF zs 6 S').2).2).2)
          else (y :: (dotsG zs (n - (k + 1)) y (belF zs 6 S').2).1, (dotsG zs (n - (k + 1)) y (belF zs 6 S').2).2)) := by
        show _ = _
        rw [show n - k = (n - (k + 1)) + 1 by omega, dotsG]
      generalize (belF zs 6 S').1 = z at *
      generalize (belF zs 6 S').2 = S1 at *
      go_wp2_with fail
      refine HB6.out.mono ?_
      rintro e w1 ⟨rfl, hk1⟩
      have hcw1 := hk1.code hcw hB (by omega)
      by_cases c0 : z = 0
      · subst c0
        have HS' : Hid (dotsG zs (n - k) y S' = ((byteF zs S1).1 :: (dotsG zs (n - (k + 1)) (byteF zs S1).1 (byteF zs S1).2).1, (dotsG zs (n - (k + 1)) (byteF zs S1).1 (byteF zs S1).2).2)) := by show _ = _; rw [HS.out, if_pos rfl]
        obtain ⟨x1, x2⟩ := byteF_bd zs S1
        have HB1 : Hid (Calls _ _ _ _ _) := byte_val g a zs B S1 w1 hcw1 hB hk1.1
        generalize (byteF zs S1).1 = D at *
        generalize (byteF zs S1).2 = S2 at *
        go_wp2_with fail
        refine HB1.out.mono ?_
        rintro e w2 ⟨rfl, hk2⟩
        have hkp : CurTo wr w2 g a zs.length S2 := ⟨hk2.1, hk1.2.trans hk2.2⟩
        have hown' := hown.kept hkp.2 (.inr fun h => by have := (hown.lt g h).1; omega)
        have hsz1 := hkp.2.size
        go_wp2_with (at_builtin; refine wpList_append_lies _ (by rfl) _ _ 22 (by rfl) w.heap.size 5 i0 (.int .u8 0) 1 1 Try.underlying22 hi0 hz0 hz1 hz2 rfl (by omega) u5 k _ (by rfl) (hown'.alloc _) ⟨w2.heap.size, 0, none⟩ 1 1 [.int .u8 D] (by rfl) (by rfl) (World.news_of_block (cs := #[.int .u8 D]) (t := 5) (fr := (0, 0)) (heap_alloc_new w2 _)) (by simp [Value.oneCell']) (by omega) (by unfold maxLen; omega) (by omega) (by simp; omega) (w2.heap.size + 1) (by simp) ?_; intro gg cp w5 hown2 hgrow hat hlt2)
        have R := cur_on hgr hown hgw hkp hgrow
        have hown3 : w5.ownsRow w.heap.size 5 1 (.slice (some ⟨gg, 0, none⟩) (k + 1) cp) (k + 1) ((l ++ [D]).map (Value.int .u8)) := by simpa using hown2
        have HL2 : Hid ((l ++ [D]).length = k + 1 ∧ (l ++ [D]) ++ (dotsG zs (n - (k + 1)) D S2).1 = X ∧ (dotsG zs (n - (k + 1)) D S2).2 = ST) := by
          obtain ⟨q1, q2, q3⟩ := HL.out
          rw [HS'.out] at q2 q3
          exact ⟨by simp [q1], by rw [← q2]; simp, q3⟩
        clear hown2 hgrow hat hlt2 hown hown' hcr hkp
        go_roundw
        case rel => exact ⟨k + 1, l ++ [D], D, S2, by omega, by go_num, rfl, by omega, by omega, HL2, hown3, R.1, R.2⟩
        case measure => simp [intOf]; omega
      · by_cases c1 : z = 1
        · subst c1
          have HS' : Hid (dotsG zs (n - k) y S' = ((y + (belF zs 9 S1).1 + 252) % 256 :: (dotsG zs (n - (k + 1)) ((y + (belF zs 9 S1).1 + 252) % 256) (belF zs 9 S1).2).1, (dotsG zs (n - (k + 1)) ((y + (belF zs 9 S1).1 + 252) % 256) (belF zs 9 S1).2).2)) := by show _ = _; rw [HS.out, if_neg (by decide), if_pos rfl]
          obtain ⟨x1, x2⟩ := belF_bd zs 9 S1 (by omega)
          have HB1 : Hid (Calls _ _ _ _ _) := below_val g a zs B 9 S1 w1 hcw1 hB hk1.1 (by omega) (by omega)
          generalize (belF zs 9 S1).1 = d at *
          generalize (belF zs 9 S1).2 = S2 at *
          go_wp2_with fail
          refine HB1.out.mono ?_
          rintro e w2 ⟨rfl, hk2⟩
          have hkp : CurTo wr w2 g a zs.length S2 := ⟨hk2.1, hk1.2.trans hk2.2⟩
          have hown' := hown.kept hkp.2 (.inr fun h => by have := (hown.lt g h).1; omega)
          have hsz1 := hkp.2.size
          have hm0 : 0 ≤ (y + d + 252) % 256 := Int.emod_nonneg _ (by decide)
          have hm1 : (y + d + 252) % 256 ≤ 255 := by omega
          go_wp2_with (at_builtin; refine wpList_append_lies _ (by rfl) _ _ 22 (by rfl) w.heap.size 5 i0 (.int .u8 0) 1 1 Try.underlying22 hi0 hz0 hz1 hz2 rfl (by omega) u5 k _ (by rfl) (hown'.alloc _) ⟨w2.heap.size, 0, none⟩ 1 1 [.int .u8 ((y + d + 252) % 256)] (by rfl) (by rfl) (World.news_of_block (cs := #[.int .u8 ((y + d + 252) % 256)]) (t := 5) (fr := (0, 0)) (heap_alloc_new w2 _)) (by simp [Value.oneCell']) (by omega) (by unfold maxLen; omega) (by omega) (by simp; omega) (w2.heap.size + 1) (by simp) ?_; intro gg cp w5 hown2 hgrow hat hlt2)
          have R := cur_on hgr hown hgw hkp hgrow
          have hown3 : w5.ownsRow w.heap.size 5 1 (.slice (some ⟨gg, 0, none⟩) (k + 1) cp) (k + 1) ((l ++ [((y + d + 252) % 256)]).map (Value.int .u8)) := by simpa using hown2
          have HL2 : Hid ((l ++ [((y + d + 252) % 256)]).length = k + 1 ∧ (l ++ [((y + d + 252) % 256)]) ++ (dotsG zs (n - (k + 1)) ((y + d + 252) % 256) S2).1 = X ∧ (dotsG zs (n - (k + 1)) ((y + d + 252) % 256) S2).2 = ST) := by
            obtain ⟨q1, q2, q3⟩ := HL.out
            rw [HS'.out] at q2 q3
            exact ⟨by simp [q1], by rw [← q2]; simp, q3⟩
          clear hown2 hgrow hat hlt2 hown hown' hcr hkp
          go_roundw
          case rel => exact ⟨k + 1, l ++ [((y + d + 252) % 256)], ((y + d + 252) % 256), S2, by omega, by go_num, rfl, by omega, by omega, HL2, hown3, R.1, R.2⟩
          case measure => simp [intOf]; omega
        · have HS' : Hid (dotsG zs (n - k) y S' = (y :: (dotsG zs (n - (k + 1)) y S1).1, (dotsG zs (n - (k + 1)) y S1).2)) := by show _ = _; rw [HS.out, if_neg c0, if_neg c1]
          have hkp : CurTo wr w1 g a zs.length S1 := hk1
          have hown' := hown.kept hkp.2 (.inr fun h => by have := (hown.lt g h).1; omega)
          have hsz1 := hkp.2.size
          go_wp2_with (at_builtin; refine wpList_append_lies _ (by rfl) _ _ 22 (by rfl) w.heap.size 5 i0 (.int .u8 0) 1 1 Try.underlying22 hi0 hz0 hz1 hz2 rfl (by omega) u5 k _ (by rfl) (hown'.alloc _) ⟨w1.heap.size, 0, none⟩ 1 1 [.int .u8 y] (by rfl) (by rfl) (World.news_of_block (cs := #[.int .u8 y]) (t := 5) (fr := (0, 0)) (heap_alloc_new w1 _)) (by simp [Value.oneCell']) (by omega) (by unfold maxLen; omega) (by omega) (by simp; omega) (w1.heap.size + 1) (by simp) ?_; intro gg cp w5 hown2 hgrow hat hlt2)
          have R := cur_on hgr hown hgw hkp hgrow
          have hown3 : w5.ownsRow w.heap.size 5 1 (.slice (some ⟨gg, 0, none⟩) (k + 1) cp) (k + 1) ((l ++ [y]).map (Value.int .u8)) := by simpa using hown2
          have HL2 : Hid ((l ++ [y]).length = k + 1 ∧ (l ++ [y]) ++ (dotsG zs (n - (k + 1)) y S1).1 = X ∧ (dotsG zs (n - (k + 1)) y S1).2 = ST) := by
            obtain ⟨q1, q2, q3⟩ := HL.out
            rw [HS'.out] at q2 q3
            exact ⟨by simp [q1], by rw [← q2]; simp, q3⟩
          clear hown2 hgrow hat hlt2 hown hown' hcr hkp
          go_roundw
          case rel => exact ⟨k + 1, l ++ [y], y, S1, by omega, by go_num, rfl, by omega, by omega, HL2, hown3, R.1, R.2⟩
          case measure => simp [intOf]; omega
    · obtain rfl : k = n := by omega
      have hconv := convD hown
      have HX : Hid (l = X ∧ S' = ST) := by
        obtain ⟨q1, q2, q3⟩ := HL.out
        rw [Nat.sub_self] at q2 q3
        exact ⟨by simpa [dotsG] using q2, by simpa [dotsG] using q3⟩
      go_wp2
      go_ret
      exact ⟨by rw [← HX.out.1]; rfl, by rw [← HX.out.2]; exact hcr, hgr⟩

/-- The bytes of a text, as a list of numbers. -/
def byteL (s : ByteArray) : List Int := listF s.size (bAt s)
set_option maxHeartbeats 1600000 in
theorem ints_val (s : ByteArray) (w : World) (hs : (s.size : Int) ≤ 100000) :
    Calls Try.prog 18 #[.string s] w fun e w' => (∃ v, e = .returned v ∧ w'.ownsRow w.heap.size 3 1 v (byteL s).length ((byteL s).map (Value.int .i64))) ∧ Below w.heap.size w w' := by
  obtain ⟨i0, hi0, hz0, hz1, hz2⟩ := info_parts infoI
  have HN : Hid ((byteL s).length = s.size) := listF_length _ _
  have HF : Hid (byteL s = listF s.size (bAt s)) := rfl
  have HS : Hid (∀ k, listF (k + 1) (bAt s) = listF k (bAt s) ++ [bAt s k]) := fun k => by unfold listF; rw [List.range_succ, List.map_append]; rfl
  have o0 : (w.alloc (.cells #[] 3)).ownsRow w.heap.size 3 1 (.slice (some ⟨w.heap.size, 0, none⟩) 0 0) 0 (([] : List Int).map (Value.int .i64)) := World.ownsRow_lit w #[] 0 (Nat.le_refl _) (by unfold maxLen; omega) rfl
  have hb0 : Below w.heap.size w (w.alloc (.cells #[] 3)) := (Below.refl _ _).alloc (Nat.le_refl _) _
  go_enter Try.func18, Try.ntmps18
  go_wp2
  go_loopw [3, 4] (fun v i wr => ∃ k : Nat, k ≤ s.size ∧ i = .int .i64 (k : Int) ∧ wr.ownsRow w.heap.size 3 1 v k ((listF k (bAt s)).map (Value.int .i64)) ∧ Below w.heap.size w wr) (fun _ i _ => s.size - (intOf i).toNat)
  case atStart => exact ⟨0, Nat.zero_le _, rfl, o0, hb0⟩
  case round =>
    obtain ⟨k, hk, rfl, hown, hb⟩ := hrel
    clear o0 hb0
    have l0 : (0 : Int) ≤ (k : Int) := by omega
    by_cases hlt : k < s.size
    · have l1 : (k : Int) < (s.size : Int) := by omega
      have e1 := bAt_eq s k hlt
      have d1 := bAt_in s k
      have hbs := hb.size
      have HS' : Hid (listF (k + 1) (bAt s) = listF k (bAt s) ++ [bAt s k]) := HS.out k
      generalize bAt s k = D at *
      go_wp2_with (at_builtin; refine wpList_append_lies _ (by rfl) _ _ 24 (by rfl) w.heap.size 3 i0 (.int .i64 0) 1 8 Try.underlying24 hi0 hz0 hz1 hz2 rfl (by omega) u3 k _ (by rfl) (hown.alloc _) ⟨wr.heap.size, 0, none⟩ 1 1 [.int .i64 D] (by rfl) (by rfl) (World.news_of_block (cs := #[.int .i64 D]) (t := 3) (fr := (0, 0)) (heap_alloc_new wr _)) (by simp [Value.oneCell']) (by omega) (by unfold maxLen; omega) (by omega) (by simp; omega) (wr.heap.size + 1) (by simp) ?_; intro gg cp w6 hown2 hgrow hat hlt2)
      have hb6 := (hb.alloc hb.size (.cells #[.int .i64 D] 3)).grown hgrow (by simp; omega) (fun j hj => (hown.lt j hj).1)
      have hown3 : w6.ownsRow w.heap.size 3 1 (.slice (some ⟨gg, 0, none⟩) (k + 1) cp) (k + 1) ((listF (k + 1) (bAt s)).map (Value.int .i64)) := by
        rw [HS'.out, List.map_append]; exact hown2
      refine ⟨⟨k + 1, by omega, by go_num, hown3, hb6⟩, ?_⟩
      simp [intOf]; omega
    · obtain rfl : k = s.size := by omega
      have HO : Hid (wr.ownsRow w.heap.size 3 1 u3 (byteL s).length ((byteL s).map (Value.int .i64))) := by
        show World.ownsRow _ _ _ _ _ _ _
        rw [HN.out, HF.out]; exact hown
      go_wp2
      go_ret
      exact ⟨⟨_, rfl, HO.out⟩, hb⟩

/-- One of three. -/
def pick3F (p q r x : Int) : Int := if x = 0 then p else if x = 1 then q else r
end Go.Proofs.Ytlejfkjanllgbaa
