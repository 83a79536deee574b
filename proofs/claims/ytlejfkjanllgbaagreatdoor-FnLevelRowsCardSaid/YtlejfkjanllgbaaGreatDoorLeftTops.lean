/-
  The walks of impl.LevelsOf and impl.LevelsBack.
-/
import Derived.Test.YtlejfkjanllgbaaGreatDoorLeftPartsAll
import Derived.Test.YtlejfkjanllgbaaGreatDoorLeftWay
import Derived.Test.YtlejfkjanllgbaaGreatDoorIntAll
namespace Go.Proofs.YtlejfkjanllgbaaGreatDoor
open Go.RowKit
set_option linter.unusedVariables false
set_option maxRecDepth 20000

theorem levF_exact (q : Int) (g : Bool) (f : Nat → Int) : levF q g true f = fun j => f (scF 8 j) := funext fun j => by unfold levF; rw [if_pos rfl]
theorem levF_large (q : Int) (f : Nat → Int) : levF q true false f = fun j => lrgF q f (scF 8 j) := funext fun j => by unfold levF; rw [if_neg (by decide), if_pos rfl]
theorem levF_small (q : Int) (f : Nat → Int) : levF q false false f = smlA q f := funext fun j => by unfold levF smlA; rw [if_neg (by decide), if_neg (by decide)]
theorem bakF_exact (q : Int) (g : Bool) (f : Nat → Int) : bakF q g true f = fun j => f (bkF 8 j) := funext fun j => by unfold bakF; rw [if_pos rfl]
theorem bakF_large (q : Int) (f : Nat → Int) : bakF q true false f = lrbF q f := funext fun j => by unfold bakF; rw [if_neg (by decide), if_pos rfl]
theorem bakF_small (q : Int) (f : Nat → Int) : bakF q false false f = smbA q f := funext fun j => by unfold bakF smbA; rw [if_neg (by decide), if_neg (by decide)]
theorem ints_self {w : World} {a : Option Addr} {xs : List Int} {n : Nat} (h : Ints w a xs) (hn : xs.length = n) : Ints w a (listF n (fun i => xs.getD i 0)) := by
  rw [← hn, listF_self]
  exact h

set_option maxHeartbeats 1600000 in
theorem implLevelsBack (a : Option Addr) (cap : Nat) (xs : List Int) (k : Bool) (q : Int) (g x : Bool) (w : World) (h : Ints w a xs) (hl : xs.length ≤ maxLen) (hcap : xs.length ≤ cap) (ht : Tabs w) :
    Calls Tryz.prog 11 #[.slice a xs.length cap, conV k q g x] w fun e w' => (∃ v, e = .returned (.tuple #[v, .bool (lvB 5000 q g x xs)]) ∧ w'.ownsRow w.heap.size 3 1 v (lbkL q g x xs).length ((lbkL q g x xs).map (Value.int .i64))) ∧ Below w.heap.size w w' := by
  have B0 := Blk.new w #[.bool k, .int .i64 q, .bool g, .bool x] 27
  have hb0 := (Below.refl w.heap.size w).alloc (Nat.le_refl _) (.cells #[.bool k, .int .i64 q, .bool g, .bool x] 27)
  have HI : Hid (∀ w', Below w.heap.size w w' → Ints w' a xs) := fun w' hb => h.below hb (Nat.le_refl _)
  have HT : Hid (∀ w', Below w.heap.size w w' → Tabs w') := fun w' hb => ht.below hb
  have C1 : Hid (∀ w', Below w.heap.size w w' → Calls Tryz.prog 23 #[.slice a xs.length cap, .int .i64 5000] w' fun e w'' => e = .returned (.bool (sqB 5000 xs)) ∧ Below w'.heap.size w' w'') := fun w' hb => numberSquareOk_any a cap xs 5000 w' (HI.out w' hb) hl (by decide) (by decide)
  have C2 : Hid (∀ w', Calls Tryz.prog 13 #[conV k q g x] w' fun e w'' => e = .returned (.bool (parB q g x)) ∧ Below w'.heap.size w' w'') := fun w' => implCondOk k q g x w'
  have CW : Hid (∀ w', Calls Tryz.prog 25 #[conV k q g x] w' fun e w'' => e = .returned (wayV g x) ∧ Below w'.heap.size w' w'') := fun w' => way_any k q g x w'
  have HJ : Hid (lvB 5000 q g x xs = (parB q g x && sqB 5000 xs)) := rfl
  have HZ0 : Hid (lvB 5000 q g x xs = false → lbkL q g x xs = []) := fun h => lbkL_no h
  have HZ1 : Hid (lvB 5000 q g x xs = true → lbkL q g x xs = listF 64 (bakF q g x (fun i => xs.getD i 0))) := fun h => lbkL_yes h
  have HQ : Hid (sqB 5000 xs = true → xs.length = 64 ∧ ∀ i, i < 64 → -5000 ≤ xs.getD i 0 ∧ xs.getD i 0 ≤ 5000) := fun h => ⟨(sqB_iff.1 h).1, sqB_at h⟩
  have HP : Hid (parB q g x = true → (g && x) = false) := fun h => by cases g <;> cases x <;> simp_all [parB]
  unfold maxLen at hl
  clear h ht
  generalize lbkL q g x xs = Z at *
  generalize lvB 5000 q g x xs = J at *
  generalize parB q g x = X at *
  generalize sqB 5000 xs = Y at *
  go_enter Tryz.func11, Tryz.ntmps11
  go_wp2_with fail
  generalize World.alloc w _ = V at *
  have BK : Hid (∀ w', Below V.heap.size V w' → (w'.cell? ⟨w.heap.size, 0, none⟩ = some (.bool k) ∧ w'.cell? ⟨w.heap.size, 1, none⟩ = some (.int .i64 q) ∧ w'.cell? ⟨w.heap.size, 2, none⟩ = some (.bool g) ∧ w'.cell? ⟨w.heap.size, 3, none⟩ = some (.bool x))) := fun w' h => (B0.below h B0.lt).four.1
  clear B0
  refine (C1.out V hb0).mono ?_
  rintro e w1 ⟨rfl, hb1⟩
  have hbw1 := hb0.trans (hb1.mono hb0.size)
  rcases Y with _ | _
  · obtain rfl : Z = [] := HZ0.out (by rw [HJ.out]; simp)
    have HE : Hid (J = false) := by show _ = _; rw [HJ.out]; simp
    go_wp2
    go_ret2
    exact ⟨⟨_, by rw [HE.out]; rfl, own_none w1 hbw1.size⟩, hbw1.alloc hbw1.size _⟩
  obtain ⟨x0, x1, x2, x3⟩ := BK.out w1 hb1
  go_wp2_with fail
  refine (C2.out w1).mono ?_
  rintro e w2 ⟨rfl, hc⟩
  have hb2 := hb1.trans (hc.mono hb1.size)
  have hbw2 := hb0.trans (hb2.mono hb0.size)
  clear hc x0 x1 x2 x3 hbw1 hb1
  rcases X with _ | _
  · obtain rfl : Z = [] := HZ0.out (by rw [HJ.out]; rfl)
    have HE : Hid (J = false) := by show _ = _; rw [HJ.out]; rfl
    go_wp2
    go_ret2
    exact ⟨⟨_, by rw [HE.out]; rfl, own_none w2 hbw2.size⟩, hbw2.alloc hbw2.size _⟩
  obtain rfl : J = true := HJ.out
  obtain ⟨hn, hd⟩ := HQ.out (by trivial)
  have HZ : Hid (Z = listF 64 (bakF q g x (fun i => xs.getD i 0))) := HZ1.out (by trivial)
  obtain ⟨f, hf⟩ : ∃ f : Nat → Int, f = fun i => xs.getD i 0 := ⟨_, rfl⟩
  have HD : Hid (∀ i, i < 64 → -5000 ≤ f i ∧ f i ≤ 5000) := fun i hi => by rw [hf]; exact hd i hi
  have HN : Hid (∀ w', Below w.heap.size w w' → Ints w' a (listF 64 (fun i => xs.getD i 0))) := fun w' hb => ints_self (HI.out w' hb) hn
  have hgx := HP.out (by trivial)
  rw [hn] at hcap ⊢
  rw [← hf] at HN HZ
  clear HJ HZ0 HZ1 HQ HP C1 C2 HI hd hn hl hf
  obtain ⟨x0, x1, x2, x3⟩ := BK.out w2 hb2
  have hbs := hb0.size
  have hfin : ∀ (F : Nat → Int) (v : Value) (w5 : World), bakF q g x f = F → w5.ownsRow V.heap.size 3 1 v 64 ((listF 64 F).map (Value.int .i64)) → w5.ownsRow w.heap.size 3 1 v Z.length (Z.map (Value.int .i64)) := fun F v w5 e ho => by
    rw [HZ.out, e, listF_length]
    exact own_mono ho hbs
  have HFIN : Hid _ := hfin
  clear hfin
  cases x with
  | true =>
    obtain rfl : g = false := by simpa using hgx
    have CL : Hid (∀ w', Below w.heap.size w w' → Calls Tryz.prog 45 #[conV k q false true, .slice a 64 cap] w' fun e w'' => (∃ v, e = .returned v ∧ RowF w'' w'.heap.size v 64 (fun j => f (bkF 8 j))) ∧ Below w'.heap.size w' w'') := fun w' hb => exactBack_any k q false true a cap f w' (HN.out w' hb)
    have HFE := bakF_exact q false f
    generalize hFF : (fun j => f (bkF 8 j)) = FF at *
    have HFF : Hid (bakF q false true f = FF) := HFE
    clear HFE hFF HD HZ HN HT hgx
    have HW : Hid (∀ w', Calls Tryz.prog 25 #[conV k q false true] w' fun e w'' => e = .returned (.agg #[.func (Fn.func 44) #[] #[], .func (Fn.func 45) #[] #[], .int .i64 64]) ∧ Below w'.heap.size w' w'') := CW.out
    clear CW
    have hfl : ∀ (a b c : Value) (W : World), (Instr.field 58 (.agg #[a, b, c]) 1).run Tryz.prog W = .ok b W := way_back
    go_wp2_with fail
    go_region_held3 (fun w' => w'.cell? ⟨w.heap.size, 0, none⟩ = some (.bool k) ∧ w'.cell? ⟨w.heap.size, 1, none⟩ = some (.int .i64 q) ∧ w'.cell? ⟨w.heap.size, 2, none⟩ = some (.bool false) ∧ w'.cell? ⟨w.heap.size, 3, none⟩ = some (.bool true))
      (first | (with_reducible exact hS) | go_keep)
      (first
        | (go_at_call 25; refine (HW.out _).mono ?_; rintro e w5 ⟨rfl, hc5⟩; have hb5 : Below V.heap.size V w5 := hb2.drew.trans (hc5.mono hb2.size); have hS := BK.out w5 hb5)
        | (go_at_call 45; refine (CL.out _ (hb0.trans (hb5.mono hbs))).mono ?_; rintro e w6 ⟨⟨v6, rfl, ho6⟩, hc6⟩; have hb6 : Below V.heap.size V w6 := hb5.trans (hc6.mono hb5.size); have hS := BK.out w6 hb6))
    all_goals
      have HO : Hid (World.ownsRow _ _ _ _ _ _ _) := HFIN.out FF _ _ HFF.out (own_mono ho6 hb5.size)
      clear ho6 hfl
      go_wp2
      go_ret2
      exact ⟨⟨_, rfl, HO.out⟩, hb0.trans (hb6.mono hbs)⟩
  | false =>
    cases g with
    | true =>
      have CL : Hid (∀ w', Below w.heap.size w w' → Calls Tryz.prog 43 #[conV k q true false, .slice a 64 cap] w' fun e w'' => (∃ v, e = .returned v ∧ RowF w'' w'.heap.size v 64 (lrbF q f)) ∧ Below w'.heap.size w' w'') := fun w' hb => largeBack_any k q true false a cap f w' (HN.out w' hb) (HT.out w' hb)
      have HFE := bakF_large q f
      generalize hFF : (lrbF q f) = FF at *
      have HFF : Hid (bakF q true false f = FF) := HFE
      clear HFE hFF HD HZ HN HT hgx
      have HW : Hid (∀ w', Calls Tryz.prog 25 #[conV k q true false] w' fun e w'' => e = .returned (.agg #[.func (Fn.func 42) #[] #[], .func (Fn.func 43) #[] #[], .int .i64 64]) ∧ Below w'.heap.size w' w'') := CW.out
      clear CW
      have hfl : ∀ (a b c : Value) (W : World), (Instr.field 58 (.agg #[a, b, c]) 1).run Tryz.prog W = .ok b W := way_back
      go_wp2_with fail
      go_region_held3 (fun w' => w'.cell? ⟨w.heap.size, 0, none⟩ = some (.bool k) ∧ w'.cell? ⟨w.heap.size, 1, none⟩ = some (.int .i64 q) ∧ w'.cell? ⟨w.heap.size, 2, none⟩ = some (.bool true) ∧ w'.cell? ⟨w.heap.size, 3, none⟩ = some (.bool false))
        (first | (with_reducible exact hS) | go_keep)
        (first
          | (go_at_call 25; refine (HW.out _).mono ?_; rintro e w5 ⟨rfl, hc5⟩; have hb5 : Below V.heap.size V w5 := hb2.drew.trans (hc5.mono hb2.size); have hS := BK.out w5 hb5)
          | (go_at_call 43; refine (CL.out _ (hb0.trans (hb5.mono hbs))).mono ?_; rintro e w6 ⟨⟨v6, rfl, ho6⟩, hc6⟩; have hb6 : Below V.heap.size V w6 := hb5.trans (hc6.mono hb5.size); have hS := BK.out w6 hb6))
      all_goals
        have HO : Hid (World.ownsRow _ _ _ _ _ _ _) := HFIN.out FF _ _ HFF.out (own_mono ho6 hb5.size)
        clear ho6 hfl
        go_wp2
        go_ret2
        exact ⟨⟨_, rfl, HO.out⟩, hb0.trans (hb6.mono hbs)⟩
    | false =>
      have CL : Hid (∀ w', Below w.heap.size w w' → Calls Tryz.prog 41 #[conV k q false false, .slice a 64 cap] w' fun e w'' => (∃ v, e = .returned v ∧ RowF w'' w'.heap.size v 64 (smbA q f)) ∧ Below w'.heap.size w' w'') := fun w' hb => smallBack_any k q false false a cap f w' (HN.out w' hb) hcap (HT.out w' hb)
      have HFE := bakF_small q f
      generalize hFF : (smbA q f) = FF at *
      have HFF : Hid (bakF q false false f = FF) := HFE
      clear HFE hFF HD HZ HN HT hgx
      have HW : Hid (∀ w', Calls Tryz.prog 25 #[conV k q false false] w' fun e w'' => e = .returned (.agg #[.func (Fn.func 40) #[] #[], .func (Fn.func 41) #[] #[], .int .i64 16]) ∧ Below w'.heap.size w' w'') := CW.out
      clear CW
      have hfl : ∀ (a b c : Value) (W : World), (Instr.field 58 (.agg #[a, b, c]) 1).run Tryz.prog W = .ok b W := way_back
      go_wp2_with fail
      go_region_held3 (fun w' => w'.cell? ⟨w.heap.size, 0, none⟩ = some (.bool k) ∧ w'.cell? ⟨w.heap.size, 1, none⟩ = some (.int .i64 q) ∧ w'.cell? ⟨w.heap.size, 2, none⟩ = some (.bool false) ∧ w'.cell? ⟨w.heap.size, 3, none⟩ = some (.bool false))
        (first | (with_reducible exact hS) | go_keep)
        (first
          | (go_at_call 25; refine (HW.out _).mono ?_; rintro e w5 ⟨rfl, hc5⟩; have hb5 : Below V.heap.size V w5 := hb2.drew.trans (hc5.mono hb2.size); have hS := BK.out w5 hb5)
          | (go_at_call 41; refine (CL.out _ (hb0.trans (hb5.mono hbs))).mono ?_; rintro e w6 ⟨⟨v6, rfl, ho6⟩, hc6⟩; have hb6 : Below V.heap.size V w6 := hb5.trans (hc6.mono hb5.size); have hS := BK.out w6 hb6))
      all_goals
        have HO : Hid (World.ownsRow _ _ _ _ _ _ _) := HFIN.out FF _ _ HFF.out (own_mono ho6 hb5.size)
        clear ho6 hfl
        go_wp2
        go_ret2
        exact ⟨⟨_, rfl, HO.out⟩, hb0.trans (hb6.mono hbs)⟩
end Go.Proofs.YtlejfkjanllgbaaGreatDoor
