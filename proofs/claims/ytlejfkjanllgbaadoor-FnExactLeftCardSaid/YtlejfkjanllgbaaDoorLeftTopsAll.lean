/-
  The walks of impl.LevelsOf and impl.LevelsBack.
  What is left over as levels, of the specification: the walks of spec.l14Quarter and spec.LevelsOf.
-/
import Derived.Test.YtlejfkjanllgbaaDoorLeftPartsAll
import Derived.Test.YtlejfkjanllgbaaDoorLeftWay
import Derived.Test.YtlejfkjanllgbaaDoorIntAll
import Derived.Test.YtlejfkjanllgbaaDoorLeftKit
import Derived.Test.YtlejfkjanllgbaaDoorCondKit
import Derived.Test.YtlejfkjanllgbaaDoorStepSpecAll
import Derived.Deep.RegionWith
import Derived.Deep.AppendLies
namespace Go.Proofs.YtlejfkjanllgbaaDoor
open Go.RowKit
set_option linter.unusedVariables false
set_option maxRecDepth 20000

theorem levF_exact (q : Int) (g : Bool) (f : Nat → Int) : levF q g true f = fun j => f (scF 8 j) := funext fun j => by unfold levF; rw [if_pos rfl]
theorem levF_large (q : Int) (f : Nat → Int) : levF q true false f = fun j => lrgF q f (scF 8 j) := funext fun j => by unfold levF; rw [if_neg (by decide), if_pos rfl]
theorem levF_small (q : Int) (f : Nat → Int) : levF q false false f = smlA q f := funext fun j => by unfold levF smlA; rw [if_neg (by decide), if_neg (by decide)]
theorem bakF_exact (q : Int) (g : Bool) (f : Nat → Int) : bakF q g true f = fun j => f (bkF 8 j) := funext fun j => by unfold bakF; rw [if_pos rfl]
theorem bakF_large (q : Int) (f : Nat → Int) : bakF q true false f = lrbF q f := funext fun j => by unfold bakF; rw [if_neg (by decide), if_pos rfl]
theorem bakF_small (q : Int) (f : Nat → Int) : bakF q false false f = smbA q f := funext fun j => by unfold bakF smbA; rw [if_neg (by decide), if_neg (by decide)]
theorem ints_self {w : World} {a : Option Addr} {xs : List Int} {n : Nat} (h : Ints w a xs) (hn : xs.length = n) : Ints w a (listF n (fun i => xs.getD i 0)) := by
  rw [← hn, listF_self]
  exact h

set_option maxHeartbeats 1600000 in
theorem implLevelsOf (a : Option Addr) (cap : Nat) (xs : List Int) (k : Bool) (q : Int) (g x : Bool) (w : World) (h : Ints w a xs) (hl : xs.length ≤ maxLen) (hcap : xs.length ≤ cap) (ht : Tabs w) :
    Calls Tryd.prog 10 #[.slice a xs.length cap, conV k q g x] w fun e w' => (∃ v, e = .returned (.tuple #[v, .bool (lvB 255 q g x xs)]) ∧ w'.ownsRow w.heap.size 3 1 v (levL q g x xs).length ((levL q g x xs).map (Value.int .i64))) ∧ Below w.heap.size w w' := by
  have B0 := Blk.new w #[.bool k, .int .i64 q, .bool g, .bool x] 27
  have hb0 := (Below.refl w.heap.size w).alloc (Nat.le_refl _) (.cells #[.bool k, .int .i64 q, .bool g, .bool x] 27)
  have HI : Hid (∀ w', Below w.heap.size w w' → Ints w' a xs) := fun w' hb => h.below hb (Nat.le_refl _)
  have HT : Hid (∀ w', Below w.heap.size w w' → Tabs w') := fun w' hb => ht.below hb
  have C1 : Hid (∀ w', Below w.heap.size w w' → Calls Tryd.prog 28 #[.slice a xs.length cap, .int .i64 255] w' fun e w'' => e = .returned (.bool (sqB 255 xs)) ∧ Below w'.heap.size w' w'') := fun w' hb => numberSquareOk_any a cap xs 255 w' (HI.out w' hb) hl (by decide) (by decide)
  have C2 : Hid (∀ w', Calls Tryd.prog 29 #[conV k q g x] w' fun e w'' => e = .returned (.bool (parB q g x)) ∧ Below w'.heap.size w' w'') := fun w' => implCondOk k q g x w'
  have CW : Hid (∀ w', Calls Tryd.prog 30 #[conV k q g x] w' fun e w'' => e = .returned (wayV g x) ∧ Below w'.heap.size w' w'') := fun w' => way_any k q g x w'
  have HJ : Hid (lvB 255 q g x xs = (parB q g x && sqB 255 xs)) := rfl
  have HZ0 : Hid (lvB 255 q g x xs = false → levL q g x xs = []) := fun h => levL_no h
  have HZ1 : Hid (lvB 255 q g x xs = true → levL q g x xs = listF 64 (levF q g x (fun i => xs.getD i 0))) := fun h => levL_yes h
  have HQ : Hid (sqB 255 xs = true → xs.length = 64 ∧ ∀ i, i < 64 → -255 ≤ xs.getD i 0 ∧ xs.getD i 0 ≤ 255) := fun h => ⟨(sqB_iff.1 h).1, sqB_at h⟩
  have HP : Hid (parB q g x = true → (g && x) = false) := fun h => by cases g <;> cases x <;> simp_all [parB]
  unfold maxLen at hl
  clear h ht
  generalize levL q g x xs = Z at *
  generalize lvB 255 q g x xs = J at *
  generalize parB q g x = X at *
  generalize sqB 255 xs = Y at *
  go_enter Tryd.func10, Tryd.ntmps10
  go_wp2_with fail
  generalize World.alloc w _ = V at *
  have BK : Hid (∀ w', Below V.heap.size V w' → (w'.cell? ⟨w.heap.size, 0, none⟩ = some (.bool k) ∧ w'.cell? ⟨w.heap.size, 1, none⟩ = some (.int .i64 q) ∧ w'.cell? ⟨w.heap.size, 2, none⟩ = some (.bool g) ∧ w'.cell? ⟨w.heap.size, 3, none⟩ = some (.bool x))) := fun w' h => (B0.below h B0.lt).four.1
  clear B0
  refine (C1.out V hb0).mono ?_
  rintro e w1 ⟨rfl, hb1⟩
  have hbw1 := hb0.trans (hb1.mono hb0.size)
  rcases Y with _ | _
  · obtain rfl : Z = [] := HZ0.out (by rw [HJ.out]; simp)
    have HE : Hid (J = false) := by show _ = _; rw [HJ.out]; simp
    go_wp2
    go_ret2
    exact ⟨⟨_, by rw [HE.out]; rfl, own_none w1 hbw1.size⟩, hbw1.alloc hbw1.size _⟩
  obtain ⟨x0, x1, x2, x3⟩ := BK.out w1 hb1
  go_wp2_with fail
  refine (C2.out w1).mono ?_
  rintro e w2 ⟨rfl, hc⟩
  have hb2 := hb1.trans (hc.mono hb1.size)
  have hbw2 := hb0.trans (hb2.mono hb0.size)
  clear hc x0 x1 x2 x3 hbw1 hb1
  rcases X with _ | _
  · obtain rfl : Z = [] := HZ0.out (by rw [HJ.out]; rfl)
    have HE : Hid (J = false) := by show _ = _; rw [HJ.out]; rfl
    go_wp2
    go_ret2
    exact ⟨⟨_, by rw [HE.out]; rfl, own_none w2 hbw2.size⟩, hbw2.alloc hbw2.size _⟩
  obtain rfl : J = true := HJ.out
  obtain ⟨hn, hd⟩ := HQ.out (by trivial)
  have HZ : Hid (Z = listF 64 (levF q g x (fun i => xs.getD i 0))) := HZ1.out (by trivial)
  obtain ⟨f, hf⟩ : ∃ f : Nat → Int, f = fun i => xs.getD i 0 := ⟨_, rfl⟩
  have HD : Hid (∀ i, i < 64 → -255 ≤ f i ∧ f i ≤ 255) := fun i hi => by rw [hf]; exact hd i hi
  have HN : Hid (∀ w', Below w.heap.size w w' → Ints w' a (listF 64 (fun i => xs.getD i 0))) := fun w' hb => ints_self (HI.out w' hb) hn
  have hgx := HP.out (by trivial)
  rw [hn] at hcap ⊢
  rw [← hf] at HN HZ
  clear HJ HZ0 HZ1 HQ HP C1 C2 HI hd hn hl hf
  obtain ⟨x0, x1, x2, x3⟩ := BK.out w2 hb2
  have hbs := hb0.size
  have hfin : ∀ (F : Nat → Int) (v : Value) (w5 : World), levF q g x f = F → w5.ownsRow V.heap.size 3 1 v 64 ((listF 64 F).map (Value.int .i64)) → w5.ownsRow w.heap.size 3 1 v Z.length (Z.map (Value.int .i64)) := fun F v w5 e ho => by
    rw [HZ.out, e, listF_length]
    exact own_mono ho hbs
  have HFIN : Hid _ := hfin
  clear hfin
  cases x with
  | true =>
    obtain rfl : g = false := by simpa using hgx
    have CL : Hid (∀ w', Below w.heap.size w w' → Calls Tryd.prog 58 #[conV k q false true, .slice a 64 cap] w' fun e w'' => (∃ v, e = .returned v ∧ RowF w'' w'.heap.size v 64 (fun j => f (scF 8 j))) ∧ Below w'.heap.size w' w'') := fun w' hb => exactLevels_any k q false true a cap f w' (HN.out w' hb)
    have HFE := levF_exact q false f
    generalize hFF : (fun j => f (scF 8 j)) = FF at *
    have HFF : Hid (levF q false true f = FF) := HFE
    clear HFE hFF HD HZ HN HT hgx
    have HW : Hid (∀ w', Calls Tryd.prog 30 #[conV k q false true] w' fun e w'' => e = .returned (.agg #[.func (Fn.func 58) #[] #[], .func (Fn.func 59) #[] #[], .int .i64 64]) ∧ Below w'.heap.size w' w'') := CW.out
    clear CW
    have hfl : ∀ (a b c : Value) (W : World), (Instr.field 52 (.agg #[a, b, c]) 0).run Tryd.prog W = .ok a W := way_levels
    go_wp2_with fail
    go_region_held3 (fun w' => w'.cell? ⟨w.heap.size, 0, none⟩ = some (.bool k) ∧ w'.cell? ⟨w.heap.size, 1, none⟩ = some (.int .i64 q) ∧ w'.cell? ⟨w.heap.size, 2, none⟩ = some (.bool false) ∧ w'.cell? ⟨w.heap.size, 3, none⟩ = some (.bool true))
      (first | (with_reducible exact hS) | go_keep)
      (first
        | (go_at_call 30; refine (HW.out _).mono ?_; rintro e w5 ⟨rfl, hc5⟩; have hb5 : Below V.heap.size V w5 := hb2.drew.trans (hc5.mono hb2.size); have hS := BK.out w5 hb5)
        | (go_at_call 58; refine (CL.out _ (hb0.trans (hb5.mono hbs))).mono ?_; rintro e w6 ⟨⟨v6, rfl, ho6⟩, hc6⟩; have hb6 : Below V.heap.size V w6 := hb5.trans (hc6.mono hb5.size); have hS := BK.out w6 hb6))
    all_goals
      have HO : Hid (World.ownsRow _ _ _ _ _ _ _) := HFIN.out FF _ _ HFF.out (own_mono ho6 hb5.size)
      clear ho6 hfl
      go_wp2
      go_ret2
      exact ⟨⟨_, rfl, HO.out⟩, hb0.trans (hb6.mono hbs)⟩
  | false =>
    cases g with
    | true =>
      have CL : Hid (∀ w', Below w.heap.size w w' → Calls Tryd.prog 56 #[conV k q true false, .slice a 64 cap] w' fun e w'' => (∃ v, e = .returned v ∧ RowF w'' w'.heap.size v 64 (fun j => lrgF q f (scF 8 j))) ∧ Below w'.heap.size w' w'') := fun w' hb => largeLevels_any k q true false a cap f w' (HN.out w' hb) hcap (fun i hi => by have := HD.out i hi; omega) (HT.out w' hb)
      have HFE := levF_large q f
      generalize hFF : (fun j => lrgF q f (scF 8 j)) = FF at *
      have HFF : Hid (levF q true false f = FF) := HFE
      clear HFE hFF HD HZ HN HT hgx
      have HW : Hid (∀ w', Calls Tryd.prog 30 #[conV k q true false] w' fun e w'' => e = .returned (.agg #[.func (Fn.func 56) #[] #[], .func (Fn.func 57) #[] #[], .int .i64 64]) ∧ Below w'.heap.size w' w'') := CW.out
      clear CW
      have hfl : ∀ (a b c : Value) (W : World), (Instr.field 52 (.agg #[a, b, c]) 0).run Tryd.prog W = .ok a W := way_levels
      go_wp2_with fail
      go_region_held3 (fun w' => w'.cell? ⟨w.heap.size, 0, none⟩ = some (.bool k) ∧ w'.cell? ⟨w.heap.size, 1, none⟩ = some (.int .i64 q) ∧ w'.cell? ⟨w.heap.size, 2, none⟩ = some (.bool true) ∧ w'.cell? ⟨w.heap.size, 3, none⟩ = some (.bool false))
        (first | (with_reducible exact hS) | go_keep)
        (first
          | (go_at_call 30; refine (HW.out _).mono ?_; rintro e w5 ⟨rfl, hc5⟩; have hb5 : Below V.heap.size V w5 := hb2.drew.trans (hc5.mono hb2.size); have hS := BK.out w5 hb5)
          | (go_at_call 56; refine (CL.out _ (hb0.trans (hb5.mono hbs))).mono ?_; rintro e w6 ⟨⟨v6, rfl, ho6⟩, hc6⟩; have hb6 : Below V.heap.size V w6 := hb5.trans (hc6.mono hb5.size); have hS := BK.out w6 hb6))
      all_goals
        have HO : Hid (World.ownsRow _ _ _ _ _ _ _) := HFIN.out FF _ _ HFF.out (own_mono ho6 hb5.size)
        clear ho6 hfl
        go_wp2
        go_ret2
        exact ⟨⟨_, rfl, HO.out⟩, hb0.trans (hb6.mono hbs)⟩
    | false =>
      have CL : Hid (∀ w', Below w.heap.size w w' → Calls Tryd.prog 54 #[conV k q false false, .slice a 64 cap] w' fun e w'' => (∃ v, e = .returned v ∧ RowF w'' w'.heap.size v 64 (smlA q f)) ∧ Below w'.heap.size w' w'') := fun w' hb => smallLevels_any k q false false a cap f w' (HN.out w' hb) (fun i hi => by have := HD.out i hi; omega) (HT.out w' hb)
      have HFE := levF_small q f
      generalize hFF : (smlA q f) = FF at *
      have HFF : Hid (levF q false false f = FF) := HFE
      clear HFE hFF HD HZ HN HT hgx
      have HW : Hid (∀ w', Calls Tryd.prog 30 #[conV k q false false] w' fun e w'' => e = .returned (.agg #[.func (Fn.func 54) #[] #[], .func (Fn.func 55) #[] #[], .int .i64 16]) ∧ Below w'.heap.size w' w'') := CW.out
      clear CW
      have hfl : ∀ (a b c : Value) (W : World), (Instr.field 52 (.agg #[a, b, c]) 0).run Tryd.prog W = .ok a W := way_levels
      go_wp2_with fail
      go_region_held3 (fun w' => w'.cell? ⟨w.heap.size, 0, none⟩ = some (.bool k) ∧ w'.cell? ⟨w.heap.size, 1, none⟩ = some (.int .i64 q) ∧ w'.cell? ⟨w.heap.size, 2, none⟩ = some (.bool false) ∧ w'.cell? ⟨w.heap.size, 3, none⟩ = some (.bool false))
        (first | (with_reducible exact hS) | go_keep)
        (first
          | (go_at_call 30; refine (HW.out _).mono ?_; rintro e w5 ⟨rfl, hc5⟩; have hb5 : Below V.heap.size V w5 := hb2.drew.trans (hc5.mono hb2.size); have hS := BK.out w5 hb5)
          | (go_at_call 54; refine (CL.out _ (hb0.trans (hb5.mono hbs))).mono ?_; rintro e w6 ⟨⟨v6, rfl, ho6⟩, hc6⟩; have hb6 : Below V.heap.size V w6 := hb5.trans (hc6.mono hb5.size); have hS := BK.out w6 hb6))
      all_goals
        have HO : Hid (World.ownsRow _ _ _ _ _ _ _) := HFIN.out FF _ _ HFF.out (own_mono ho6 hb5.size)
        clear ho6 hfl
        go_wp2
        go_ret2
        exact ⟨⟨_, rfl, HO.out⟩, hb0.trans (hb6.mono hbs)⟩

set_option maxHeartbeats 1600000 in
theorem implLevelsBack (a : Option Addr) (cap : Nat) (xs : List Int) (k : Bool) (q : Int) (g x : Bool) (w : World) (h : Ints w a xs) (hl : xs.length ≤ maxLen) (hcap : xs.length ≤ cap) (ht : Tabs w) :
    Calls Tryd.prog 11 #[.slice a xs.length cap, conV k q g x] w fun e w' => (∃ v, e = .returned (.tuple #[v, .bool (lvB 5000 q g x xs)]) ∧ w'.ownsRow w.heap.size 3 1 v (lbkL q g x xs).length ((lbkL q g x xs).map (Value.int .i64))) ∧ Below w.heap.size w w' := by
  have B0 := Blk.new w #[.bool k, .int .i64 q, .bool g, .bool x] 27
  have hb0 := (Below.refl w.heap.size w).alloc (Nat.le_refl _) (.cells #[.bool k, .int .i64 q, .bool g, .bool x] 27)
  have HI : Hid (∀ w', Below w.heap.size w w' → Ints w' a xs) := fun w' hb => h.below hb (Nat.le_refl _)
  have HT : Hid (∀ w', Below w.heap.size w w' → Tabs w') := fun w' hb => ht.below hb
  have C1 : Hid (∀ w', Below w.heap.size w w' → Calls Tryd.prog 28 #[.slice a xs.length cap, .int .i64 5000] w' fun e w'' => e = .returned (.bool (sqB 5000 xs)) ∧ Below w'.heap.size w' w'') := fun w' hb => numberSquareOk_any a cap xs 5000 w' (HI.out w' hb) hl (by decide) (by decide)
  have C2 : Hid (∀ w', Calls Tryd.prog 29 #[conV k q g x] w' fun e w'' => e = .returned (.bool (parB q g x)) ∧ Below w'.heap.size w' w'') := fun w' => implCondOk k q g x w'
  have CW : Hid (∀ w', Calls Tryd.prog 30 #[conV k q g x] w' fun e w'' => e = .returned (wayV g x) ∧ Below w'.heap.size w' w'') := fun w' => way_any k q g x w'
  have HJ : Hid (lvB 5000 q g x xs = (parB q g x && sqB 5000 xs)) := rfl
  have HZ0 : Hid (lvB 5000 q g x xs = false → lbkL q g x xs = []) := fun h => lbkL_no h
  have HZ1 : Hid (lvB 5000 q g x xs = true → lbkL q g x xs = listF 64 (bakF q g x (fun i => xs.getD i 0))) := fun h => lbkL_yes h
  have HQ : Hid (sqB 5000 xs = true → xs.length = 64 ∧ ∀ i, i < 64 → -5000 ≤ xs.getD i 0 ∧ xs.getD i 0 ≤ 5000) := fun h => ⟨(sqB_iff.1 h).1, sqB_at h⟩
  have HP : Hid (parB q g x = true → (g && x) = false) := fun h => by cases g <;> cases x <;> simp_all [parB]
  unfold maxLen at hl
  clear h ht
  generalize lbkL q g x xs = Z at *
  generalize lvB 5000 q g x xs = J at *
  generalize parB q g x = X at *
  generalize sqB 5000 xs = Y at *
  go_enter Tryd.func11, Tryd.ntmps11
  go_wp2_with fail
  generalize World.alloc w _ = V at *
  have BK : Hid (∀ w', Below V.heap.size V w' → (w'.cell? ⟨w.heap.size, 0, none⟩ = some (.bool k) ∧ w'.cell? ⟨w.heap.size, 1, none⟩ = some (.int .i64 q) ∧ w'.cell? ⟨w.heap.size, 2, none⟩ = some (.bool g) ∧ w'.cell? ⟨w.heap.size, 3, none⟩ = some (.bool x))) := fun w' h => (B0.below h B0.lt).four.1
  clear B0
  refine (C1.out V hb0).mono ?_
  rintro e w1 ⟨rfl, hb1⟩
  have hbw1 := hb0.trans (hb1.mono hb0.size)
  rcases Y with _ | _
  · obtain rfl : Z = [] := HZ0.out (by rw [HJ.out]; simp)
    have HE : Hid (J = false) := by show _ = _; rw [HJ.out]; simp
    go_wp2
    go_ret2
    exact ⟨⟨_, by rw [HE.out]; rfl, own_none w1 hbw1.size⟩, hbw1.alloc hbw1.size _⟩
  obtain ⟨x0, x1, x2, x3⟩ := BK.out w1 hb1
  go_wp2_with fail
  refine (C2.out w1).mono ?_
  rintro e w2 ⟨rfl, hc⟩
  have hb2 := hb1.trans (hc.mono hb1.size)
  have hbw2 := hb0.trans (hb2.mono hb0.size)
  clear hc x0 x1 x2 x3 hbw1 hb1
  rcases X with _ | _
  · obtain rfl : Z = [] := HZ0.out (by rw [HJ.out]; rfl)
    have HE : Hid (J = false) := by show _ = _; rw [HJ.out]; rfl
    go_wp2
    go_ret2
    exact ⟨⟨_, by rw [HE.out]; rfl, own_none w2 hbw2.size⟩, hbw2.alloc hbw2.size _⟩
  obtain rfl : J = true := HJ.out
  obtain ⟨hn, hd⟩ := HQ.out (by trivial)
  have HZ : Hid (Z = listF 64 (bakF q g x (fun i => xs.getD i 0))) := HZ1.out (by trivial)
  obtain ⟨f, hf⟩ : ∃ f : Nat → Int, f = fun i => xs.getD i 0 := ⟨_, rfl⟩
  have HD : Hid (∀ i, i < 64 → -5000 ≤ f i ∧ f i ≤ 5000) := fun i hi => by rw [hf]; exact hd i hi
  have HN : Hid (∀ w', Below w.heap.size w w' → Ints w' a (listF 64 (fun i => xs.getD i 0))) := fun w' hb => ints_self (HI.out w' hb) hn
  have hgx := HP.out (by trivial)
  rw [hn] at hcap ⊢
  rw [← hf] at HN HZ
  clear HJ HZ0 HZ1 HQ HP C1 C2 HI hd hn hl hf
  obtain ⟨x0, x1, x2, x3⟩ := BK.out w2 hb2
  have hbs := hb0.size
  have hfin : ∀ (F : Nat → Int) (v : Value) (w5 : World), bakF q g x f = F → w5.ownsRow V.heap.size 3 1 v 64 ((listF 64 F).map (Value.int .i64)) → w5.ownsRow w.heap.size 3 1 v Z.length (Z.map (Value.int .i64)) := fun F v w5 e ho => by
    rw [HZ.out, e, listF_length]
    exact own_mono ho hbs
  have HFIN : Hid _ := hfin
  clear hfin
  cases x with
  | true =>
    obtain rfl : g = false := by simpa using hgx
    have CL : Hid (∀ w', Below w.heap.size w w' → Calls Tryd.prog 59 #[conV k q false true, .slice a 64 cap] w' fun e w'' => (∃ v, e = .returned v ∧ RowF w'' w'.heap.size v 64 (fun j => f (bkF 8 j))) ∧ Below w'.heap.size w' w'') := fun w' hb => exactBack_any k q false true a cap f w' (HN.out w' hb)
    have HFE := bakF_exact q false f
    generalize hFF : (fun j => f (bkF 8 j)) = FF at *
    have HFF : Hid (bakF q false true f = FF) := HFE
    clear HFE hFF HD HZ HN HT hgx
    have HW : Hid (∀ w', Calls Tryd.prog 30 #[conV k q false true] w' fun e w'' => e = .returned (.agg #[.func (Fn.func 58) #[] #[], .func (Fn.func 59) #[] #[], .int .i64 64]) ∧ Below w'.heap.size w' w'') := CW.out
    clear CW
    have hfl : ∀ (a b c : Value) (W : World), (Instr.field 52 (.agg #[a, b, c]) 1).run Tryd.prog W = .ok b W := way_back
    go_wp2_with fail
    go_region_held3 (fun w' => w'.cell? ⟨w.heap.size, 0, none⟩ = some (.bool k) ∧ w'.cell? ⟨w.heap.size, 1, none⟩ = some (.int .i64 q) ∧ w'.cell? ⟨w.heap.size, 2, none⟩ = some (.bool false) ∧ w'.cell? ⟨w.heap.size, 3, none⟩ = some (.bool true))
      (first | (with_reducible exact hS) | go_keep)
      (first
        | (go_at_call 30; refine (HW.out _).mono ?_; rintro e w5 ⟨rfl, hc5⟩; have hb5 : Below V.heap.size V w5 := hb2.drew.trans (hc5.mono hb2.size); have hS := BK.out w5 hb5)
        | (go_at_call 59; refine (CL.out _ (hb0.trans (hb5.mono hbs))).mono ?_; rintro e w6 ⟨⟨v6, rfl, ho6⟩, hc6⟩; have hb6 : Below V.heap.size V w6 := hb5.trans (hc6.mono hb5.size); have hS := BK.out w6 hb6))
    all_goals
      have HO : Hid (World.ownsRow _ _ _ _ _ _ _) := HFIN.out FF _ _ HFF.out (own_mono ho6 hb5.size)
      clear ho6 hfl
      go_wp2
      go_ret2
      exact ⟨⟨_, rfl, HO.out⟩, hb0.trans (hb6.mono hbs)⟩
  | false =>
    cases g with
    | true =>
      have CL : Hid (∀ w', Below w.heap.size w w' → Calls Tryd.prog 57 #[conV k q true false, .slice a 64 cap] w' fun e w'' => (∃ v, e = .returned v ∧ RowF w'' w'.heap.size v 64 (lrbF q f)) ∧ Below w'.heap.size w' w'') := fun w' hb => largeBack_any k q true false a cap f w' (HN.out w' hb) (HT.out w' hb)
      have HFE := bakF_large q f
      generalize hFF : (lrbF q f) = FF at *
      have HFF : Hid (bakF q true false f = FF) := HFE
      clear HFE hFF HD HZ HN HT hgx
      have HW : Hid (∀ w', Calls Tryd.prog 30 #[conV k q true false] w' fun e w'' => e = .returned (.agg #[.func (Fn.func 56) #[] #[], .func (Fn.func 57) #[] #[], .int .i64 64]) ∧ Below w'.heap.size w' w'') := CW.out
      clear CW
      have hfl : ∀ (a b c : Value) (W : World), (Instr.field 52 (.agg #[a, b, c]) 1).run Tryd.prog W = .ok b W := way_back
      go_wp2_with fail
      go_region_held3 (fun w' => w'.cell? ⟨w.heap.size, 0, none⟩ = some (.bool k) ∧ w'.cell? ⟨w.heap.size, 1, none⟩ = some (.int .i64 q) ∧ w'.cell? ⟨w.heap.size, 2, none⟩ = some (.bool true) ∧ w'.cell? ⟨w.heap.size, 3, none⟩ = some (.bool false))
        (first | (with_reducible exact hS) | go_keep)
        (first
          | (go_at_call 30; refine (HW.out _).mono ?_; rintro e w5 ⟨rfl, hc5⟩; have hb5 : Below V.heap.size V w5 := hb2.drew.trans (hc5.mono hb2.size); have hS := BK.out w5 hb5)
          | (go_at_call 57; refine (CL.out _ (hb0.trans (hb5.mono hbs))).mono ?_; rintro e w6 ⟨⟨v6, rfl, ho6⟩, hc6⟩; have hb6 : Below V.heap.size V w6 := hb5.trans (hc6.mono hb5.size); have hS := BK.out w6 hb6))
      all_goals
        have HO : Hid (World.ownsRow _ _ _ _ _ _ _) := HFIN.out FF _ _ HFF.out (own_mono ho6 hb5.size)
        clear ho6 hfl
        go_wp2
        go_ret2
        exact ⟨⟨_, rfl, HO.out⟩, hb0.trans (hb6.mono hbs)⟩
    | false =>
      have CL : Hid (∀ w', Below w.heap.size w w' → Calls Tryd.prog 55 #[conV k q false false, .slice a 64 cap] w' fun e w'' => (∃ v, e = .returned v ∧ RowF w'' w'.heap.size v 64 (smbA q f)) ∧ Below w'.heap.size w' w'') := fun w' hb => smallBack_any k q false false a cap f w' (HN.out w' hb) hcap (HT.out w' hb)
      have HFE := bakF_small q f
      generalize hFF : (smbA q f) = FF at *
      have HFF : Hid (bakF q false false f = FF) := HFE
      clear HFE hFF HD HZ HN HT hgx
      have HW : Hid (∀ w', Calls Tryd.prog 30 #[conV k q false false] w' fun e w'' => e = .returned (.agg #[.func (Fn.func 54) #[] #[], .func (Fn.func 55) #[] #[], .int .i64 16]) ∧ Below w'.heap.size w' w'') := CW.out
      clear CW
      have hfl : ∀ (a b c : Value) (W : World), (Instr.field 52 (.agg #[a, b, c]) 1).run Tryd.prog W = .ok b W := way_back
      go_wp2_with fail
      go_region_held3 (fun w' => w'.cell? ⟨w.heap.size, 0, none⟩ = some (.bool k) ∧ w'.cell? ⟨w.heap.size, 1, none⟩ = some (.int .i64 q) ∧ w'.cell? ⟨w.heap.size, 2, none⟩ = some (.bool false) ∧ w'.cell? ⟨w.heap.size, 3, none⟩ = some (.bool false))
        (first | (with_reducible exact hS) | go_keep)
        (first
          | (go_at_call 30; refine (HW.out _).mono ?_; rintro e w5 ⟨rfl, hc5⟩; have hb5 : Below V.heap.size V w5 := hb2.drew.trans (hc5.mono hb2.size); have hS := BK.out w5 hb5)
          | (go_at_call 55; refine (CL.out _ (hb0.trans (hb5.mono hbs))).mono ?_; rintro e w6 ⟨⟨v6, rfl, ho6⟩, hc6⟩; have hb6 : Below V.heap.size V w6 := hb5.trans (hc6.mono hb5.size); have hS := BK.out w6 hb6))
      all_goals
        have HO : Hid (World.ownsRow _ _ _ _ _ _ _) := HFIN.out FF _ _ HFF.out (own_mono ho6 hb5.size)
        clear ho6 hfl
        go_wp2
        go_ret2
        exact ⟨⟨_, rfl, HO.out⟩, hb0.trans (hb6.mono hbs)⟩
end Go.Proofs.YtlejfkjanllgbaaDoor

namespace Go.Proofs.YtlejfkjanllgbaaDoor
open Go.RowKit
set_option linter.unusedVariables false

set_option maxHeartbeats 1600000 in
theorem specQuarter (p : Option Addr) (c q : Nat) (f : Nat → Int) (w : World) (h : Ints w p (listF 64 f)) (hq : q < 4) :
    Calls Tryd.prog 39 #[.slice p 64 c, .int .i64 (q : Int)] w fun e w' => (∃ v, e = .returned v ∧ RowF w' w.heap.size v 16 (qtrF f q)) ∧ Below w.heap.size w w' := by
  obtain ⟨i0, hi0, hz0, hz1, hz2⟩ := info_parts infoI
  obtain ⟨b, off, ha, HI⟩ := ints_cells h (by omega)
  subst ha
  have HX : Hid (∀ i, i < 16 → qIx q i < 64 ∧ qtrF f q i = f (qIx q i) ∧ 8 * ((q : Int) / 2 * 4 + (i : Int) / 4) + (q : Int) % 2 * 4 + (i : Int) % 4 = (qIx q i : Int)) := fun i hi => ⟨qIx_lt hq hi, rfl, by unfold qIx; omega⟩
  have q0 : (0 : Int) ≤ (q : Int) := by omega
  have q1 : (q : Int) < 4 := by omega
  clear h hq
  obtain ⟨F, HF⟩ : ∃ F : Nat → Int, Hid (F = qtrF f q) := ⟨_, rfl⟩
  rw [← HF.out] at HX ⊢
  generalize (q : Int) = m at *
  go_enter Tryd.func39, Tryd.ntmps39
  go_wp2_with fail
  generalize hs : w.heap.size = s at *
  go_loopw [5, 6] (fun v i wr => ∃ k : Nat, k ≤ 16 ∧ i = .int .i64 (k : Int) ∧ wr.ownsRow s 3 1 v k ((listF k F).map (Value.int .i64)) ∧ Below s w wr) (fun _ i _ => 16 - (intOf i).toNat)
  case atStart => exact ⟨0, by omega, rfl, by rw [← hs]; exact World.ownsRow_made w #[] 0 (Nat.le_refl _) (by unfold maxLen; omega) rfl, by rw [← hs]; exact (Below.refl _ _).alloc (Nat.le_refl _) _⟩
  case round =>
    obtain ⟨k, hk, rfl, hown, hb⟩ := hrel
    by_cases hlt : k < 16
    · have l0 : (0 : Int) ≤ (k : Int) := by omega
      have l1 : (k : Int) < 16 := by omega
      obtain ⟨hx, hF, he⟩ := HX.out k hlt
      have d1 := HI.out wr hb (qIx q k) hx
      rw [← hF] at d1
      have HLk : Hid ((listF k F).map (Value.int .i64) ++ [.int .i64 (F k)] = (listF (k + 1) F).map (Value.int .i64)) := listF_end k F
      have hsz : s ≤ wr.heap.size := by rw [← hs]; exact hb.size
      have y0 : (0 : Int) ≤ (qIx q k : Int) := by omega
      have y1 : (qIx q k : Int) < 64 := by omega
      generalize F k = x at *
      generalize qIx q k = y at *
      clear hF
      have hfin : ∀ (gg cp : Nat) (w6 : World), w6.ownsRow s 3 1 (.slice (some ⟨gg, 0, none⟩) (k + 1) cp) (k + 1) ((listF k F).map (Value.int .i64) ++ [.int .i64 x]) → w6.ownsRow s 3 1 (.slice (some ⟨gg, 0, none⟩) (k + 1) cp) (k + 1) ((listF (k + 1) F).map (Value.int .i64)) := fun gg cp w6 ho => by rw [← HLk.out]; exact ho
      have HFIN : Hid _ := hfin
      clear hfin
      go_wp2_with (at_builtin; refine wpList_append_lies _ (by rfl) _ _ 24 (by rfl) s 3 i0 (.int .i64 0) 1 8 Tryd.underlying24 hi0 hz0 hz1 hz2 rfl (by omega) u5 k _ (by rfl) (hown.alloc _) ⟨wr.heap.size, 0, none⟩ 1 1 [.int .i64 x] (by rfl) (by rfl) (World.news_of_block (cs := #[.int .i64 x]) (t := 3) (fr := (0, 0)) (heap_alloc_new wr _)) (by simp [Value.oneCell']) (by omega) (by unfold maxLen; omega) (by omega) (by simp; omega) (wr.heap.size + 1) (by simp) ?_; intro gg cp w6 hown6 hgrow hat hlt6)
      have hb6 := (hb.alloc hsz (.cells #[.int .i64 x] 3)).grown hgrow (by simp; omega) (base_of_own hown)
      refine ⟨⟨k + 1, by omega, by go_num, HFIN.out _ _ _ hown6, hb6⟩, ?_⟩
      simp [intOf]; omega
    · obtain rfl : k = 16 := by omega
      have HO : Hid (World.ownsRow _ _ _ _ _ _ _) := hown
      clear hown
      go_wp2
      go_ret
      exact ⟨⟨_, rfl, by have r := HO.out; rw [← hs] at r; exact r⟩, by first | exact hb | (rw [hs]; exact hb)⟩

set_option maxHeartbeats 1600000 in
theorem specLevelsOf_ex (a : Option Addr) (cap : Nat) (f : Nat → Int) (k : Bool) (q : Int) (w : World) (h : Ints w a (listF 64 f)) (hd : ∀ i, i < 64 → -255 ≤ f i ∧ f i ≤ 255) (hp : parB q false true = true) :
    Calls Tryd.prog 14 #[.slice a 64 cap, conV k q false true] w fun e w' => (∃ v, e = .returned (.tuple #[v, .bool true]) ∧ RowF w' w.heap.size v 64 (fun j => f (scF 8 j))) ∧ Below w.heap.size w w' := by
  have B0 := Blk.new w #[.bool k, .int .i64 q, .bool false, .bool true] 27
  have hb0 := (Below.refl w.heap.size w).alloc (Nat.le_refl _) (.cells #[.bool k, .int .i64 q, .bool false, .bool true] 27)
  have HI : Hid (∀ w', Below w.heap.size w w' → Ints w' a (listF 64 f)) := fun w' hb => h.below hb (Nat.le_refl _)
  have C1 : Hid (∀ w', Calls Tryd.prog 33 #[conV k q false true] w' fun e w'' => e = .returned (.bool true) ∧ Below w'.heap.size w' w'') := fun w' => by
    have := specCondOk k q false true w'
    rwa [hp] at this
  have C2 : Hid (∀ w', Below w.heap.size w w' → Calls Tryd.prog 34 #[.slice a 64 cap, .int .i64 64, .int .i64 255] w' fun e w'' => e = .returned (.bool true) ∧ Below w'.heap.size w' w'') := fun w' hb => by
    have := specAll a cap 64 (listF 64 f) 255 w' (HI.out w' hb) (by rw [listF_length]; unfold maxLen; omega) (by decide) (by decide)
    rw [listF_length, inB_allF hd] at this
    exact this
  clear h hp
  go_enter Tryd.func14, Tryd.ntmps14
  go_wp2_with fail
  generalize World.alloc w _ = V at *
  have BK : Hid (∀ w', Below V.heap.size V w' → (w'.cell? ⟨w.heap.size, 1, none⟩ = some (.int .i64 q) ∧ w'.cell? ⟨w.heap.size, 2, none⟩ = some (.bool false) ∧ w'.cell? ⟨w.heap.size, 3, none⟩ = some (.bool true))) := fun w' h => (B0.below h B0.lt).four.1.2
  clear B0
  refine (C1.out V).mono ?_
  rintro e w1 ⟨rfl, hb1⟩
  go_wp2_with fail
  refine (C2.out w1 (hb0.trans (hb1.mono hb0.size))).mono ?_
  rintro e w2 ⟨rfl, hc⟩
  have hb2 := hb1.trans (hc.mono hb1.size)
  have hbs := hb0.size
  have hbw2 := hb0.trans (hb2.mono hbs)
  clear hc hb1 C1 C2
  obtain ⟨x1, x2, x3⟩ := BK.out w2 hb2
  go_wp2_with fail
  refine (specScan8 a cap f w2 (HI.out w2 hbw2)).mono ?_
  rintro e w3 ⟨⟨v, rfl, ho⟩, hc⟩
  have HO : Hid (World.ownsRow _ _ _ _ _ _ _) := own_mono ho hbw2.size
  have hb3 := hbw2.trans (hc.mono hbw2.size)
  clear ho hc
  go_wp2
  go_ret2
  exact ⟨⟨_, rfl, HO.out⟩, hb3⟩

set_option maxHeartbeats 1600000 in
theorem specLevelsOf_lg (a : Option Addr) (cap : Nat) (f : Nat → Int) (k : Bool) (q : Int) (w : World) (h : Ints w a (listF 64 f)) (hd : ∀ i, i < 64 → -255 ≤ f i ∧ f i ≤ 255) (hp : parB q true false = true) :
    Calls Tryd.prog 14 #[.slice a 64 cap, conV k q true false] w fun e w' => (∃ v, e = .returned (.tuple #[v, .bool true]) ∧ RowF w' w.heap.size v 64 (fun j => lrgF q f (scF 8 j))) ∧ Below w.heap.size w w' := by
  have B0 := Blk.new w #[.bool k, .int .i64 q, .bool true, .bool false] 27
  have hb0 := (Below.refl w.heap.size w).alloc (Nat.le_refl _) (.cells #[.bool k, .int .i64 q, .bool true, .bool false] 27)
  have HI : Hid (∀ w', Below w.heap.size w w' → Ints w' a (listF 64 f)) := fun w' hb => h.below hb (Nat.le_refl _)
  have C1 : Hid (∀ w', Calls Tryd.prog 33 #[conV k q true false] w' fun e w'' => e = .returned (.bool true) ∧ Below w'.heap.size w' w'') := fun w' => by
    have := specCondOk k q true false w'
    rwa [hp] at this
  have C2 : Hid (∀ w', Below w.heap.size w w' → Calls Tryd.prog 34 #[.slice a 64 cap, .int .i64 64, .int .i64 255] w' fun e w'' => e = .returned (.bool true) ∧ Below w'.heap.size w' w'') := fun w' hb => by
    have := specAll a cap 64 (listF 64 f) 255 w' (HI.out w' hb) (by rw [listF_length]; unfold maxLen; omega) (by decide) (by decide)
    rw [listF_length, inB_allF hd] at this
    exact this
  clear h hp
  go_enter Tryd.func14, Tryd.ntmps14
  go_wp2_with fail
  generalize World.alloc w _ = V at *
  have BK : Hid (∀ w', Below V.heap.size V w' → (w'.cell? ⟨w.heap.size, 1, none⟩ = some (.int .i64 q) ∧ w'.cell? ⟨w.heap.size, 2, none⟩ = some (.bool true) ∧ w'.cell? ⟨w.heap.size, 3, none⟩ = some (.bool false))) := fun w' h => (B0.below h B0.lt).four.1.2
  clear B0
  refine (C1.out V).mono ?_
  rintro e w1 ⟨rfl, hb1⟩
  go_wp2_with fail
  refine (C2.out w1 (hb0.trans (hb1.mono hb0.size))).mono ?_
  rintro e w2 ⟨rfl, hc⟩
  have hb2 := hb1.trans (hc.mono hb1.size)
  have hbs := hb0.size
  have hbw2 := hb0.trans (hb2.mono hbs)
  clear hc hb1 C1 C2
  obtain ⟨x1, x2, x3⟩ := BK.out w2 hb2
  obtain ⟨E, HEq⟩ : ∃ E : Nat → Int, Hid (E = eightF f) := ⟨_, rfl⟩
  obtain ⟨L, HLq⟩ : ∃ L : Nat → Int, Hid (L = lrgF q f) := ⟨_, rfl⟩
  have HE : Hid (∀ i, L i = largeF (E i) q) := fun i => by rw [HLq.out, HEq.out]; rfl
  go_wp2_with fail
  refine (specEightF a cap f w2 (fun i hi => by have := hd i hi; omega) (HI.out w2 hbw2)).mono ?_
  rintro e w3 ⟨⟨v, rfl, ho⟩, hc⟩
  obtain ⟨gv, cv, rfl, hg1, _, _, _⟩ := ho.form (by omega)
  have ho1 := ho
  unfold RowF at ho1
  rw [← HEq.out, ← upF_none L E 64] at ho1
  generalize hz : w2.heap.size = z at *
  have hzz : ∀ wr : World, Below z w2 wr → z ≤ wr.heap.size := fun wr h => by rw [← hz]; exact h.size
  have hVz : V.heap.size ≤ z := by rw [← hz]; exact hb2.size
  have hVV : ∀ wr : World, Below z w2 wr → Below V.heap.size V wr := fun wr h => hb2.trans (h.mono hVz)
  clear ho x1 x2 x3
  go_wp2_with fail
  go_loopw [7] (fun i wr => ∃ j : Nat, j ≤ 64 ∧ i = .int .i64 (j : Int) ∧ wr.ownsRow z 3 1 (.slice (some ⟨gv, 0, none⟩) 64 cv) 64 ((listF 64 (upF L E j)).map (Value.int .i64)) ∧ Below z w2 wr) (fun i _ => 64 - (intOf i).toNat)
  case atStart => exact ⟨0, by omega, rfl, ho1, hc⟩
  case round =>
    obtain ⟨j, hj, rfl, hownj, hbj⟩ := hrel
    clear ho1 hc
    have hzj : z ≤ wr.heap.size := hzz wr hbj
    by_cases hlj : j < 64
    · have l0 : (0 : Int) ≤ (j : Int) := by omega
      have l1 : (j : Int) < 64 := by omega
      have dq := (BK.out wr (hVV wr hbj)).1
      have hcc := hownj.cellAt j (by omega)
      rw [map_at _ hlj, upF_at] at hcc
      have hfz := hownj.frozenAt j
      have hst := hownj.stored j (.int .i64 (L j))
      have hbn := hbj.grown hst.2 hzj (fun j hj => by cases hj; exact hg1)
      have hos := hst.1
      rw [upF_set] at hos
      have CL : Hid (∀ w', Calls Tryd.prog 37 #[.int .i64 (E j), .int .i64 q] w' fun e w'' => e = .returned (.int .i64 (L j)) ∧ w'' = w') := fun w' => by
        rw [HE.out j]
        exact specLargeLevel (E j) q w'
      generalize L j = y at *
      generalize E j = e0 at *
      clear hst hownj
      have FIN : Hid ((wr.setCell ⟨gv, j, none⟩ (.int .i64 y)).drew.ownsRow z 3 1 (.slice (some ⟨gv, 0, none⟩) 64 cv) 64 ((listF 64 (upF L E (j + 1))).map (Value.int .i64)) ∧ Below z w2 (wr.setCell ⟨gv, j, none⟩ (.int .i64 y)).drew) := ⟨hos, hbn.drew⟩
      clear hos hbn
      go_wp2_with fail
      go_region_with (go_at_call 37; refine (CL.out _).mono ?_; rintro e w5 ⟨rfl, hw⟩; subst w5)
      all_goals
        go_wp2
        refine ⟨⟨j + 1, by omega, by go_num, FIN.out.1, FIN.out.2⟩, ?_⟩
        simp [intOf]; omega
    · obtain rfl : j = 64 := by omega
      rw [upF_full] at hownj
      have hi : Ints wr (some ⟨gv, 0, none⟩) (listF 64 L) := RowF.at' hownj
      clear hownj
      go_wp2_with fail
      refine (specScan8 _ _ L wr hi).mono ?_
      rintro e w6 ⟨⟨v6, rfl, ho6⟩, hc6⟩
      have HO : Hid (World.ownsRow _ _ _ _ _ _ _) := own_mono (B' := w.heap.size) ho6 (by omega)
      have hb6 := hb0.trans ((hVV wr hbj).mono hbs)
      have hb7 := hb6.trans (hc6.mono hb6.size)
      clear ho6 hc6 hi
      go_wp2
      go_ret2
      exact ⟨⟨_, rfl, by have r := HO.out; rwa [HLq.out] at r⟩, hb7⟩

set_option maxHeartbeats 3200000 in
theorem specLevelsOf_sm (a : Option Addr) (cap : Nat) (f : Nat → Int) (k : Bool) (q : Int) (w : World) (h : Ints w a (listF 64 f)) (hd : ∀ i, i < 64 → -255 ≤ f i ∧ f i ≤ 255) (hp : parB q false false = true) :
    Calls Tryd.prog 14 #[.slice a 64 cap, conV k q false false] w fun e w' => (∃ v, e = .returned (.tuple #[v, .bool true]) ∧ RowF w' w.heap.size v 64 (smlA q f)) ∧ Below w.heap.size w w' := by
  obtain ⟨i0, hi0, hz0, hz1, hz2⟩ := info_parts infoI
  have HQ : Hid (∀ (m : Nat) w', m < 4 → Below w.heap.size w w' → Calls Tryd.prog 39 #[.slice a 64 cap, .int .i64 (m : Int)] w' fun e w'' => (∃ v, e = .returned v ∧ RowF w'' w'.heap.size v 16 (qtrF f m)) ∧ Below w'.heap.size w' w'') := fun m w' hm hb => specQuarter a cap m f w' (h.below hb (Nat.le_refl _)) hm
  have HF : Hid (∀ m, m < 4 → ∀ i, i < 16 → -1000 ≤ qtrF f m i ∧ qtrF f m i ≤ 1000) := fun m hm i hi => by have := hd _ (qIx_lt hm hi); unfold qtrF; omega
  have HA : Hid (∀ m, (listF (16 * m) (smlA q f)).map (Value.int .i64) ++ (listF 16 (fun j => smlF q (qtrF f m) (scF 4 j))).map (Value.int .i64) = (listF (16 * m + 16) (smlA q f)).map (Value.int .i64)) := fun m => smlA_more q f m
  obtain ⟨A, HAq⟩ : ∃ A : Nat → Int, Hid (A = smlA q f) := ⟨_, rfl⟩
  rw [← HAq.out] at HA
  have B0 := Blk.new w #[.bool k, .int .i64 q, .bool false, .bool false] 27
  have hb0 := (Below.refl w.heap.size w).alloc (Nat.le_refl _) (.cells #[.bool k, .int .i64 q, .bool false, .bool false] 27)
  have HI : Hid (∀ w', Below w.heap.size w w' → Ints w' a (listF 64 f)) := fun w' hb => h.below hb (Nat.le_refl _)
  have C1 : Hid (∀ w', Calls Tryd.prog 33 #[conV k q false false] w' fun e w'' => e = .returned (.bool true) ∧ Below w'.heap.size w' w'') := fun w' => by
    have := specCondOk k q false false w'
    rwa [hp] at this
  have C2 : Hid (∀ w', Below w.heap.size w w' → Calls Tryd.prog 34 #[.slice a 64 cap, .int .i64 64, .int .i64 255] w' fun e w'' => e = .returned (.bool true) ∧ Below w'.heap.size w' w'') := fun w' hb => by
    have := specAll a cap 64 (listF 64 f) 255 w' (HI.out w' hb) (by rw [listF_length]; unfold maxLen; omega) (by decide) (by decide)
    rw [listF_length, inB_allF hd] at this
    exact this
  clear h hp
  go_enter Tryd.func14, Tryd.ntmps14
  go_wp2_with fail
  generalize World.alloc w _ = V at *
  have BK : Hid (∀ w', Below V.heap.size V w' → (w'.cell? ⟨w.heap.size, 1, none⟩ = some (.int .i64 q) ∧ w'.cell? ⟨w.heap.size, 2, none⟩ = some (.bool false) ∧ w'.cell? ⟨w.heap.size, 3, none⟩ = some (.bool false))) := fun w' h => (B0.below h B0.lt).four.1.2
  clear B0
  refine (C1.out V).mono ?_
  rintro e w1 ⟨rfl, hb1⟩
  go_wp2_with fail
  refine (C2.out w1 (hb0.trans (hb1.mono hb0.size))).mono ?_
  rintro e w2 ⟨rfl, hc⟩
  have hb2 := hb1.trans (hc.mono hb1.size)
  have hbs := hb0.size
  have hbw2 := hb0.trans (hb2.mono hbs)
  clear hc hb1 C1 C2
  obtain ⟨x1, x2, x3⟩ := BK.out w2 hb2
  generalize hs : V.heap.size = s at *
  have ho0 : (w2.alloc (.cells #[] 3)).ownsRow s 3 1 (.slice (some ⟨w2.heap.size, 0, none⟩) 0 0) 0 (([] : List Int).map (Value.int .i64)) := own_none w2 (by rw [← hs]; exact hb2.size)
  have hb3 := hb2.alloc (by rw [← hs]; exact hb2.size) (.cells #[] 3)
  clear hd HI x1 hbw2
  go_wp2_with fail
  generalize World.alloc w2 _ = w3 at *
  go_loopw [8, 9] (fun u i wr => ∃ m : Nat, m ≤ 4 ∧ i = .int .i64 (m : Int) ∧ wr.ownsRow s 3 1 u (16 * m) ((listF (16 * m) A).map (Value.int .i64)) ∧ Below s V wr) (fun _ i _ => 4 - (intOf i).toNat)
  case atStart => exact ⟨0, by omega, rfl, ho0, hb3⟩
  case round =>
    obtain ⟨m, hm, rfl, hown, hb⟩ := hrel
    clear ho0 hb3 hb2 x2 x3
    have hsw : s ≤ wr.heap.size := by rw [← hs]; exact hb.size
    by_cases hlt : m < 4
    · have l0 : (0 : Int) ≤ (m : Int) := by omega
      have l1 : (m : Int) < 4 := by omega
      generalize wr = wh at *
      have HAm := HA.out m
      have HAh : Hid _ := HAm
      clear HAm
      go_wp2_with fail
      refine (HQ.out m wh hlt (hb0.trans (hb.mono hbs))).mono ?_
      rintro e w4 ⟨⟨v2, rfl, ho2⟩, hc2⟩
      obtain ⟨g2, c2, rfl, _, _, _, hi2⟩ := ho2.form (by omega)
      clear ho2
      go_wp2_with fail
      refine (specFourF _ _ (qtrF f m) w4 (HF.out m hlt) hi2).mono ?_
      rintro e w5 ⟨⟨v3, rfl, ho3⟩, hc3⟩
      obtain ⟨g3, c3, rfl, hg3, _, _, _⟩ := ho3.form (by omega)
      have hc := hc2.trans (hc3.mono hc2.size)
      have hgh : wh.heap.size ≤ g3 := Nat.le_trans hc2.size hg3
      have ho1 := own_mono ho3 hc2.size
      obtain ⟨E, HEq⟩ : ∃ E : Nat → Int, Hid (E = turnF sumR (qtrF f m)) := ⟨_, rfl⟩
      obtain ⟨L, HLq⟩ : ∃ L : Nat → Int, Hid (L = smlF q (qtrF f m)) := ⟨_, rfl⟩
      have HE : Hid (∀ i, L i = smallF (E i) q (i : Int)) := fun i => by rw [HLq.out, HEq.out]; rfl
      rw [← HEq.out] at ho1
      rw [← HLq.out] at HAh
      rw [← upF_none L E 16] at ho1
      clear ho3 hc3 hc2 hi2 hg3
      generalize hz : wh.heap.size = z at *
      have hsz : s ≤ z := hsw
      have hzz : ∀ wr : World, Below z wh wr → z ≤ wr.heap.size := fun wr h => by rw [← hz]; exact h.size
      have hVV : ∀ wr : World, Below z wh wr → Below s V wr := fun wr h => hb.trans (h.mono hsz)
      go_wp2_with fail
      go_loopw [11] (fun i wr => ∃ j : Nat, j ≤ 16 ∧ i = .int .i64 (j : Int) ∧ wr.ownsRow z 3 1 (.slice (some ⟨g3, 0, none⟩) 16 c3) 16 ((listF 16 (upF L E j)).map (Value.int .i64)) ∧ Below z wh wr) (fun i _ => 16 - (intOf i).toNat)
      case atStart => exact ⟨0, by omega, rfl, ho1, hc⟩
      case round =>
        obtain ⟨j, hj, rfl, hownj, hbj⟩ := hrel
        clear ho1 hc
        have hzj : z ≤ wr.heap.size := hzz wr hbj
        by_cases hlj : j < 16
        · have l0 : (0 : Int) ≤ (j : Int) := by omega
          have l1 : (j : Int) < 16 := by omega
          have dq := (BK.out wr (hVV wr hbj)).1
          have hcc := hownj.cellAt j (by omega)
          rw [map_at _ hlj, upF_at] at hcc
          have hfz := hownj.frozenAt j
          have hst := hownj.stored j (.int .i64 (L j))
          have hbn := hbj.grown hst.2 hzj (fun j hj => by cases hj; exact hgh)
          have hos := hst.1
          rw [upF_set] at hos
          have CL : Hid (∀ w', Calls Tryd.prog 40 #[.int .i64 (E j), .int .i64 q, .int .i64 (j : Int)] w' fun e w'' => e = .returned (.int .i64 (L j)) ∧ w'' = w') := fun w' => by
            rw [HE.out j]
            exact specSmallLevel (E j) q (j : Int) w'
          generalize L j = y at *
          generalize E j = e0 at *
          clear hst hownj
          have FIN : Hid ((wr.setCell ⟨g3, j, none⟩ (.int .i64 y)).drew.ownsRow z 3 1 (.slice (some ⟨g3, 0, none⟩) 16 c3) 16 ((listF 16 (upF L E (j + 1))).map (Value.int .i64)) ∧ Below z wh (wr.setCell ⟨g3, j, none⟩ (.int .i64 y)).drew) := ⟨hos, hbn.drew⟩
          clear hos hbn
          go_wp2_with fail
          go_region_with (go_at_call 40; refine (CL.out _).mono ?_; rintro e w5 ⟨rfl, hw⟩; subst w5)
          all_goals
            go_wp2
            refine ⟨⟨j + 1, by omega, by go_num, FIN.out.1, FIN.out.2⟩, ?_⟩
            simp [intOf]; omega
        · obtain rfl : j = 16 := by omega
          rw [upF_full] at hownj
          have hi : Ints wr (some ⟨g3, 0, none⟩) (listF 16 L) := RowF.at' hownj
          clear hownj
          go_wp2_with fail
          refine (specScan4 _ _ L wr hi).mono ?_
          rintro e w6 ⟨⟨v6, rfl, ho6⟩, hc6⟩
          obtain ⟨g6, c6, rfl, _, _, _, hi6⟩ := ho6.form (by omega)
          have hzw : Below z wh w6 := hbj.trans (hc6.mono hzj)
          have hown6 := owned_below hown (by rw [hz]; exact hzw)
          have hb6 : Below s V w6 := hb.trans (hzw.mono hsz)
          have hs6 : s ≤ w6.heap.size := by rw [← hs]; exact hb6.size
          have HLn : Hid (((listF 16 (fun k => L (scF 4 k))).map (Value.int .i64)).length = 16 * 1) := by show _ = _; rw [List.length_map, listF_length]
          clear ho6 hc6 hi
          have NW := news_of_list hi6
          go_wp2_with (at_builtin; refine wpList_append_lies _ (by rfl) _ _ 24 (by rfl) s 3 i0 (.int .i64 0) 1 8 Tryd.underlying24 hi0 hz0 hz1 hz2 rfl (by omega) u8 (16 * m) _ (by rfl) hown6 ⟨g6, 0, none⟩ 16 c6 ((listF 16 (fun k => L (scF 4 k))).map (Value.int .i64)) (by rfl) HLn.out NW (ones_of_list _) (by omega) (by unfold maxLen; omega) (by omega) hs6 (w6.heap.size) rfl ?_; intro g7 c7 w7 hown7 hgrow hat hlt7)
          have hb7 := hb6.grown hgrow hs6 (base_of_own hown6)
          rw [HAh.out] at hown7
          have HO7 : Hid (World.ownsRow _ _ _ _ _ _ _) := hown7
          clear hown7 hown6 hgrow hat NW hi6
          refine ⟨⟨m + 1, by omega, by go_num, HO7.out, hb7⟩, ?_⟩
          simp [intOf]; omega
    · obtain rfl : m = 4 := by omega
      have HO : Hid (World.ownsRow _ _ _ _ _ _ _) := own_mono hown hbs
      have hbf := hb0.trans (hb.mono hbs)
      clear hown
      go_wp2
      go_ret2
      exact ⟨⟨_, rfl, by have r := HO.out; rwa [HAq.out] at r⟩, hbf⟩
end Go.Proofs.YtlejfkjanllgbaaDoor
