/-
  Levels out of a row at every argument: the walks of impl.ReadLevels, spec.l14Read and spec.ReadLevels.
-/
import Derived.Test.YtlejfkjanllgbaaDoorLeftRead
import Derived.Test.YtlejfkjanllgbaaDoorRunBacks
import Derived.Test.YtlejfkjanllgbaaDoorRowWalks
namespace Go.Proofs.YtlejfkjanllgbaaDoor
open Go.RowKit
set_option linter.unusedVariables false
set_option maxRecDepth 20000

def lrSt (F : Nat → Option (Int × Nat)) (s : ByteArray) (a q : Int) (g x : Bool) : LSt := if (placeB s a && parB q g x) = true then rdM F (lrN g x) a.toNat (lrC g x) else none
theorem lrSt_yes {F : Nat → Option (Int × Nat)} {s : ByteArray} {p : Nat} {q : Int} {g x : Bool} (h : placeB s (p : Int) = true) (h2 : parB q g x = true) : lrSt F s (p : Int) q g x = rdM F (lrN g x) p (lrC g x) := by
  unfold lrSt
  rw [if_pos (by rw [h, h2]; rfl), Int.toNat_natCast]
theorem lrSt_no {F : Nat → Option (Int × Nat)} {s : ByteArray} {a q : Int} {g x : Bool} (h : (placeB s a && parB q g x) = false) : lrSt F s a q g x = none := if_neg (by rw [h]; decide)
theorem lr_cases (g x : Bool) : (lrN g x = 16 ∧ lrC g x = 4 ∧ g = false ∧ x = false) ∨ (lrN g x = 64 ∧ lrC g x = 1 ∧ (g || x) = true) := by
  cases g <;> cases x <;> simp [lrN, lrC]

theorem levelsAt_any {s : ByteArray} {F : Nat → Option (Int × Nat)} (hF : IsCnt s F) (hr : rowOkB s = true) (p : Nat) (k : Bool) (q : Int) (g x : Bool) (w : World) (hp : p ≤ s.size) :
    Calls Tryd.prog 50 #[.string s, .int .i64 (p : Int), conV k q g x] w fun e w' => (∃ v, e = .returned (.tuple #[v, .int .i64 (lsE (rdM F (lrN g x) p (lrC g x))), .bool (lsY (rdM F (lrN g x) p (lrC g x)))]) ∧ w'.ownsRow w.heap.size 3 1 v (lsL (rdM F (lrN g x) p (lrC g x))).length ((lsL (rdM F (lrN g x) p (lrC g x))).map (Value.int .i64))) ∧ Below w.heap.size w w' := by
  rcases lr_cases g x with ⟨h1, h2, _⟩ | ⟨h1, h2, _⟩
  · rw [h1, h2]
    exact levelsAt_16 hF hr p k q g x w hp h1
  · rw [h1, h2]
    exact levelsAt_64 hF hr p k q g x w hp h1

set_option maxHeartbeats 1600000 in
theorem implReadLevels {s : ByteArray} {F : Nat → Option (Int × Nat)} (hF : IsCnt s F) (a : Int) (k : Bool) (q : Int) (g x : Bool) (w : World) (hm : s.size ≤ maxLen) :
    Calls Tryd.prog 22 #[.string s, .int .i64 a, conV k q g x] w fun e w' => (∃ v, e = .returned (.tuple #[v, .int .i64 (lsE (lrSt F s a q g x)), .bool (lsY (lrSt F s a q g x))]) ∧ w'.ownsRow w.heap.size 3 1 v (lsL (lrSt F s a q g x)).length ((lsL (lrSt F s a q g x)).map (Value.int .i64))) ∧ Below w.heap.size w w' := by
  have B0 := Blk.new w #[.bool k, .int .i64 q, .bool g, .bool x] 27
  have hb0 := (Below.refl w.heap.size w).alloc (Nat.le_refl _) (.cells #[.bool k, .int .i64 q, .bool g, .bool x] 27)
  have CP : Hid (∀ w', Calls Tryd.prog 49 #[.string s, .int .i64 a] w' (fun e w'' => e = .returned (.bool (placeB s a)) ∧ w'' = w')) := fun w' => implPlace s a w' hm
  have CC : Hid (∀ w', Calls Tryd.prog 29 #[conV k q g x] w' fun e w'' => e = .returned (.bool (parB q g x)) ∧ Below w'.heap.size w' w'') := fun w' => implCondOk k q g x w'
  have CL : Hid (placeB s a = true → parB q g x = true → ∀ w', Calls Tryd.prog 50 #[.string s, .int .i64 a, conV k q g x] w' fun e w'' => (∃ v, e = .returned (.tuple #[v, .int .i64 (lsE (lrSt F s a q g x)), .bool (lsY (lrSt F s a q g x))]) ∧ w''.ownsRow w'.heap.size 3 1 v (lsL (lrSt F s a q g x)).length ((lsL (lrSt F s a q g x)).map (Value.int .i64))) ∧ Below w'.heap.size w' w'') := fun h1 h2 w' => by
    obtain ⟨a0, a1, hr⟩ := placeB_true s a h1
    obtain ⟨p, rfl⟩ : ∃ p : Nat, a = (p : Int) := ⟨a.toNat, by omega⟩
    rw [lrSt_yes h1 h2]
    exact levelsAt_any hF hr p k q g x w' (by omega)
  have HN : Hid ((placeB s a && parB q g x) = false → lrSt F s a q g x = none) := fun h => lrSt_no h
  clear hF hm
  generalize lrSt F s a q g x = st at *
  generalize placeB s a = X at *
  generalize parB q g x = Y at *
  go_enter Tryd.func22, Tryd.ntmps22
  go_wp2_with fail
  generalize World.alloc w _ = V at *
  have BK : Hid (∀ w', Below V.heap.size V w' → (w'.cell? ⟨w.heap.size, 0, none⟩ = some (.bool k) ∧ w'.cell? ⟨w.heap.size, 1, none⟩ = some (.int .i64 q) ∧ w'.cell? ⟨w.heap.size, 2, none⟩ = some (.bool g) ∧ w'.cell? ⟨w.heap.size, 3, none⟩ = some (.bool x))) := fun w' h => (B0.below h B0.lt).four.1
  clear B0
  have hbs := hb0.size
  refine (CP.out V).mono ?_
  rintro e w1 ⟨rfl, hw⟩
  subst w1
  rcases X with _ | _
  · obtain rfl : st = none := HN.out (by rfl)
    go_wp2
    go_ret3
    exact ⟨⟨_, rfl, own_none V hbs⟩, hb0.alloc hbs _⟩
  obtain ⟨x0, x1, x2, x3⟩ := BK.out V (Below.refl _ _)
  go_wp2_with fail
  refine (CC.out V).mono ?_
  rintro e w2 ⟨rfl, hc⟩
  have hb2 := hb0.trans (hc.mono hbs)
  rcases Y with _ | _
  · obtain rfl : st = none := HN.out (by rfl)
    clear x0 x1 x2 x3
    go_wp2
    go_ret3
    exact ⟨⟨_, rfl, own_none w2 hb2.size⟩, hb2.alloc hb2.size _⟩
  clear x0 x1 x2 x3
  obtain ⟨x0, x1, x2, x3⟩ := BK.out w2 hc
  go_wp2_with fail
  refine (CL.out (by trivial) (by trivial) w2).mono ?_
  rintro e w3 ⟨⟨v, rfl, ho⟩, hc3⟩
  have HO : Hid (World.ownsRow _ _ _ _ _ _ _) := own_mono ho hb2.size
  have hb3 := hb2.trans (hc3.mono hb2.size)
  clear ho hc3 x0 x1 x2 x3
  go_wp2
  go_ret3
  exact ⟨⟨_, rfl, HO.out⟩, hb3⟩

theorem rdM_one {F : Nat → Option (Int × Nat)} (p : Nat) : lsL (rdM F 64 p 1) = ansL 64 (readR F 64 p) ∧ lsE (rdM F 64 p 1) = ansE (readR F 64 p) ∧ lsY (rdM F 64 p 1) = ansY (readR F 64 p) := by
  cases h : readR F 64 p with
  | none =>
    have e : rdM F 64 p 1 = none := by simp only [rdM, h]
    rw [e]
    exact ⟨rfl, rfl, rfl⟩
  | some r =>
    obtain ⟨g, kk, e'⟩ := r
    have e : rdM F 64 p 1 = some (fun i => if i < 64 * 0 then (fun _ => (0 : Int)) i else g (i - 64 * 0), e') := by simp only [rdM, h]
    rw [e]
    refine ⟨?_, rfl, rfl⟩
    show listF 64 _ = listF 64 g
    exact listF_congr fun i hi => by rw [if_neg (by omega)]; congr 1

set_option maxHeartbeats 1600000 in
theorem specRead_large {s : ByteArray} {F : Nat → Option (Int × Nat)} (hF : IsCnt s F) (hr : rowOkB s = true) (p : Nat) (k : Bool) (q : Int) (g x : Bool) (w : World) (hp : p ≤ s.size) (hgx : (g || x) = true) :
    Calls Tryd.prog 48 #[.string s, .int .i64 (p : Int), conV k q g x] w fun e w' => (∃ v, e = .returned (.tuple #[v, .int .i64 (ansE (readR F 64 p)), .bool (ansY (readR F 64 p))]) ∧ w'.ownsRow w.heap.size 3 1 v (ansL 64 (readR F 64 p)).length ((ansL 64 (readR F 64 p)).map (Value.int .i64))) ∧ Below w.heap.size w w' := by
  have hb0 := (Below.refl w.heap.size w).alloc (Nat.le_refl _) (.cells #[.bool k, .int .i64 q, .bool g, .bool x] 27)
  have CL : Hid (∀ w', Calls Tryd.prog 73 #[.string s, .int .i64 (p : Int), .int .i64 64] w' fun e w'' => (∃ v, e = .returned (.tuple #[v, .int .i64 (ansE (readR F 64 p)), .bool (ansY (readR F 64 p))]) ∧ w''.ownsRow w'.heap.size 3 1 v (ansL 64 (readR F 64 p)).length ((ansL 64 (readR F 64 p)).map (Value.int .i64))) ∧ Below w'.heap.size w' w'') := fun w' => specL11Read hF hr p 64 w' hp (by omega) (by omega)
  generalize readR F 64 p = st at *
  clear hF hr hp
  have hbs := hb0.size
  have HG : Hid ((g || x) = true) := hgx
  cases g with
  | true =>
    clear hgx
    go_enter Tryd.func48, Tryd.ntmps48
    go_wp2_with fail
    generalize World.alloc w _ = V at *
    refine (CL.out V).mono ?_
    rintro e w3 ⟨⟨v, rfl, ho⟩, hc3⟩
    have HO : Hid (World.ownsRow _ _ _ _ _ _ _) := own_mono ho hbs
    have hb3 := hb0.trans (hc3.mono hbs)
    clear ho hc3
    go_wp2
    go_ret3
    exact ⟨⟨_, rfl, HO.out⟩, hb3⟩
  | false =>
    obtain rfl : x = true := by simpa using hgx
    clear hgx
    go_enter Tryd.func48, Tryd.ntmps48
    go_wp2_with fail
    generalize World.alloc w _ = V at *
    refine (CL.out V).mono ?_
    rintro e w3 ⟨⟨v, rfl, ho⟩, hc3⟩
    have HO : Hid (World.ownsRow _ _ _ _ _ _ _) := own_mono ho hbs
    have hb3 := hb0.trans (hc3.mono hbs)
    clear ho hc3
    go_wp2
    go_ret3
    exact ⟨⟨_, rfl, HO.out⟩, hb3⟩

set_option maxHeartbeats 3200000 in
theorem specRead_small {s : ByteArray} {F : Nat → Option (Int × Nat)} (hF : IsCnt s F) (hr : rowOkB s = true) (p : Nat) (k : Bool) (q : Int) (w : World) (hp : p ≤ s.size) :
    Calls Tryd.prog 48 #[.string s, .int .i64 (p : Int), conV k q false false] w fun e w' => (∃ v, e = .returned (.tuple #[v, .int .i64 (lsE (rdM F 16 p 4)), .bool (lsY (rdM F 16 p 4))]) ∧ w'.ownsRow w.heap.size 3 1 v (lsL (rdM F 16 p 4)).length ((lsL (rdM F 16 p 4)).map (Value.int .i64))) ∧ Below w.heap.size w w' := by
  obtain ⟨i0, hi0, hz0, hz1, hz2⟩ := info_parts infoI
  have B0 := Blk.new w #[.bool k, .int .i64 q, .bool false, .bool false] 27
  have hb0 := (Below.refl w.heap.size w).alloc (Nat.le_refl _) (.cells #[.bool k, .int .i64 q, .bool false, .bool false] 27)
  have CR : Hid (∀ (e : Nat) w', e ≤ s.size → Calls Tryd.prog 73 #[.string s, .int .i64 (e : Int), .int .i64 16] w' fun e' w'' => (∃ v, e' = .returned (.tuple #[v, .int .i64 (ansE (readR F 16 e)), .bool (ansY (readR F 16 e))]) ∧ w''.ownsRow w'.heap.size 3 1 v (ansL 16 (readR F 16 e)).length ((ansL 16 (readR F 16 e)).map (Value.int .i64))) ∧ Below w'.heap.size w' w'') := fun e w' he => specL11Read hF hr e 16 w' he (by omega) (by omega)
  have HE : Hid (∀ (e kk e' : Nat) (g : Nat → Int), e ≤ s.size → readR F 16 e = some (g, kk, e') → e' ≤ s.size) := fun e kk e' g he h => readR_end hF hr he h
  have HM : Hid (∀ (m e kk e' : Nat) (f g : Nat → Int), rdM F 16 p m = some (f, e) → readR F 16 e = some (g, kk, e') → rdM F 16 p (m + 1) = some (fun i => if i < 16 * m then f i else g (i - 16 * m), e')) := fun m e kk e' f g h1 h2 => rdM_some h1 h2
  have HX : Hid (∀ (m e : Nat) (f : Nat → Int), m < 4 → rdM F 16 p m = some (f, e) → readR F 16 e = none → rdM F 16 p 4 = none) := fun m e f hm h1 h2 => rdM_stays (rdM_none h1 h2) 4 (by omega)
  have H0 : Hid (rdM F 16 p 0 = some (fun _ => 0, p)) := rfl
  obtain ⟨st, HST⟩ : ∃ st, Hid (rdM F 16 p 4 = st) := ⟨_, rfl⟩
  rw [HST.out]
  clear hr hF
  have hp' : (p : Int) ≤ (s.size : Int) := by omega
  go_enter Tryd.func48, Tryd.ntmps48
  go_wp2_with fail
  have hsz1 : (World.alloc w (.cells #[.bool k, .int .i64 q, .bool false, .bool false] 27)).heap.size = w.heap.size + 1 := by simp
  generalize World.alloc w _ = V at *
  clear B0
  have hbs := hb0.size
  have HSZ : Hid (V.heap.size = w.heap.size + 1) := hsz1
  clear hsz1
  have hown0 : (V.alloc (.cells #[] 3)).ownsRow V.heap.size 3 1 (.slice (some ⟨V.heap.size, 0, none⟩) 0 0) 0 (([] : List Int).map (Value.int .i64)) := own_none V (Nat.le_refl _)
  have hb2 := (Below.refl V.heap.size V).alloc (Nat.le_refl _) (.cells #[] 3)
  generalize hs : V.heap.size = z at *
  generalize World.alloc V _ = V1 at *
  go_loopw [9, 10, 1] (fun u mi at' wr => ∃ (m e : Nat) (f : Nat → Int), m ≤ 4 ∧ mi = .int .i64 (m : Int) ∧ at' = .int .i64 (e : Int) ∧ e ≤ s.size ∧ Hid (rdM F 16 p m = some (f, e)) ∧ wr.ownsRow z 3 1 u (16 * m) ((listF (16 * m) f).map (Value.int .i64)) ∧ Below z V wr) (fun _ mi _ _ => 4 - (intOf mi).toNat)
  case atStart => exact ⟨0, p, fun _ => 0, by omega, rfl, rfl, hp, H0, by rw [← HSZ.out]; exact hown0, hb2⟩
  case round =>
    obtain ⟨m, e, f, hm, rfl, rfl, he, HMf, hown, hb⟩ := hrel
    have m0 : (0 : Int) ≤ (m : Int) := by omega
    clear hown0 hb2
    obtain ⟨ua, uc, rfl⟩ : ∃ a c, u9 = .slice a (16 * m) c := by
      obtain ⟨a, c, h, _⟩ := ints_of_owns (xs := listF (16 * m) f) hown
      exact ⟨a, c, by rw [h, listF_length]⟩
    have hbz : z ≤ wr.heap.size := by rw [← hs]; exact hb.size
    have he0 : (0 : Int) ≤ (e : Int) := by omega
    by_cases hlt : m < 4
    · have l1 : (m : Int) < 4 := by omega
      cases hre : readR F 16 e with
      | none =>
        have HN : Hid (rdM F 16 p 4 = none) := HX.out m e f hlt HMf.out hre
        have hst : st = none := by rw [← HST.out, HN.out]
        subst hst
        have CE := CR.out e wr he
        rw [hre] at CE
        have CE' : Hid (Calls Tryd.prog _ _ _ _) := CE
        clear CE hre
        go_wp2_with fail
        refine CE'.out.mono ?_
        rintro e' w3 ⟨⟨v, rfl, ho⟩, hc⟩
        have hb3 := hb0.trans ((hb.trans (hc.mono hbz)).mono hbs)
        clear ho hc
        go_wp2
        go_ret3
        exact ⟨⟨_, rfl, own_none w3 hb3.size⟩, hb3.alloc hb3.size _⟩
      | some r =>
        obtain ⟨gg, kk, e'⟩ := r
        have HNx : Hid (rdM F 16 p (m + 1) = some (fun i => if i < 16 * m then f i else gg (i - 16 * m), e')) := HM.out m e kk e' f gg HMf.out hre
        have hee := HE.out e kk e' gg he hre
        have CE := CR.out e wr he
        rw [hre] at CE
        have CE' : Hid (Calls Tryd.prog 73 #[.string s, .int .i64 (e : Int), .int .i64 16] wr fun e0 w'' => (∃ v, e0 = .returned (.tuple #[v, .int .i64 (e' : Int), .bool true]) ∧ w''.ownsRow wr.heap.size 3 1 v 16 ((listF 16 gg).map (Value.int .i64))) ∧ Below wr.heap.size wr w'') := by
          have q := CE
          rw [show ansL 16 (some (gg, kk, e')) = listF 16 gg from rfl, listF_length] at q
          exact q
        have HLn : Hid (((listF 16 gg).map (Value.int .i64)).length = 16 * 1) := by show _ = _; rw [List.length_map, listF_length]
        have HAp : Hid _ := rdM_list 16 m f gg
        clear CE hre
        go_wp2_with fail
        refine CE'.out.mono ?_
        rintro e0 w3 ⟨⟨v, rfl, ho⟩, hc⟩
        obtain ⟨g3, c3, rfl, _, _⟩ := World.ownsRow.form ho (by omega)
        have hi3 : Ints w3 (some ⟨g3, 0, none⟩) (listF 16 gg) := owned_at (xs := listF 16 gg) (by rw [listF_length]; exact ho)
        have NW := news_of_list hi3
        have hb3 : Below z V w3 := hb.trans (hc.mono hbz)
        have hown3 := owned_below hown hc
        have hz3 : z ≤ w3.heap.size := by rw [← hs]; exact hb3.size
        clear ho hc hi3 hown
        go_wp2_with (at_builtin; refine wpList_append_lies _ (by rfl) _ _ 24 (by rfl) z 3 i0 (.int .i64 0) 1 8 Tryd.underlying24 hi0 hz0 hz1 hz2 rfl (by omega) (.slice ua (16 * m) uc) (16 * m) _ (by rfl) hown3 ⟨g3, 0, none⟩ 16 c3 ((listF 16 gg).map (Value.int .i64)) (by rfl) HLn.out NW (ones_of_list _) (by omega) (by unfold maxLen; omega) (by omega) hz3 (w3.heap.size) rfl ?_; intro g7 c7 w7 hown7 hgrow hat hlt7)
        have hb7 := hb3.grown hgrow hz3 (base_of_own hown3)
        rw [HAp.out] at hown7
        have HO7 : Hid (World.ownsRow _ _ _ _ _ _ _) := hown7
        clear hown7 hown3 hgrow hat NW
        refine ⟨⟨m + 1, e', _, by omega, by go_num, rfl, hee, HNx, HO7.out, hb7⟩, ?_⟩
        simp [intOf]; omega
    · obtain rfl : m = 4 := by omega
      have hst : st = some (f, e) := by rw [← HST.out, HMf.out]
      subst hst
      have HO : Hid (w.heap.size ≤ w.heap.size ∧ wr.ownsRow w.heap.size 3 1 (.slice ua (16 * 4) uc) (lsL (some (f, e))).length ((lsL (some (f, e))).map (Value.int .i64))) := ⟨Nat.le_refl _, by
        rw [show lsL (some (f, e)) = listF 64 f from rfl, listF_length]
        exact own_mono hown hbs⟩
      have hbf := hb0.trans (hb.mono hbs)
      clear hown
      go_wp2
      go_ret3
      exact ⟨⟨_, rfl, HO.out.2⟩, hbf⟩

theorem specL14Read {s : ByteArray} {F : Nat → Option (Int × Nat)} (hF : IsCnt s F) (hr : rowOkB s = true) (p : Nat) (k : Bool) (q : Int) (g x : Bool) (w : World) (hp : p ≤ s.size) :
    Calls Tryd.prog 48 #[.string s, .int .i64 (p : Int), conV k q g x] w fun e w' => (∃ v, e = .returned (.tuple #[v, .int .i64 (lsE (rdM F (lrN g x) p (lrC g x))), .bool (lsY (rdM F (lrN g x) p (lrC g x)))]) ∧ w'.ownsRow w.heap.size 3 1 v (lsL (rdM F (lrN g x) p (lrC g x))).length ((lsL (rdM F (lrN g x) p (lrC g x))).map (Value.int .i64))) ∧ Below w.heap.size w w' := by
  rcases lr_cases g x with ⟨h1, h2, rfl, rfl⟩ | ⟨h1, h2, hgx⟩
  · rw [h1, h2]
    exact specRead_small hF hr p k q w hp
  · rw [h1, h2]
    obtain ⟨e1, e2, e3⟩ := rdM_one (F := F) p
    rw [e1, e2, e3]
    exact specRead_large hF hr p k q g x w hp hgx

set_option maxHeartbeats 1600000 in
theorem specReadLevels {s : ByteArray} {F : Nat → Option (Int × Nat)} (hF : IsCnt s F) (a : Int) (k : Bool) (q : Int) (g x : Bool) (w : World) (hm : s.size ≤ maxLen) :
    Calls Tryd.prog 21 #[.string s, .int .i64 a, conV k q g x] w fun e w' => (∃ v, e = .returned (.tuple #[v, .int .i64 (lsE (lrSt F s a q g x)), .bool (lsY (lrSt F s a q g x))]) ∧ w'.ownsRow w.heap.size 3 1 v (lsL (lrSt F s a q g x)).length ((lsL (lrSt F s a q g x)).map (Value.int .i64))) ∧ Below w.heap.size w w' := by
  have B0 := Blk.new w #[.bool k, .int .i64 q, .bool g, .bool x] 27
  have hb0 := (Below.refl w.heap.size w).alloc (Nat.le_refl _) (.cells #[.bool k, .int .i64 q, .bool g, .bool x] 27)
  have CP : Hid (∀ w', Calls Tryd.prog 46 #[.string s] w' (fun e w'' => e = .returned (.bool (rowOkB s)) ∧ Below w'.heap.size w' w'')) := fun w' => (specRowOk s w' hm).mono (fun e w'' h => ⟨h.1, by rw [h.2]; exact Below.refl _ _⟩)
  have CI : Hid (∀ w', Calls Tryd.prog 47 #[.int .i64 a, .int .i64 0, .int .i64 (s.size : Int)] w' (fun e w'' => e = .returned (.bool (decide (0 ≤ a) && decide (a ≤ (s.size : Int)))) ∧ w'' = w')) := fun w' => in_any a 0 (s.size : Int) w'
  have CC : Hid (∀ w', Calls Tryd.prog 33 #[conV k q g x] w' fun e w'' => e = .returned (.bool (parB q g x)) ∧ Below w'.heap.size w' w'') := fun w' => specCondOk k q g x w'
  have CL : Hid (rowOkB s = true → (decide (0 ≤ a) && decide (a ≤ (s.size : Int))) = true → parB q g x = true → ∀ w', Calls Tryd.prog 48 #[.string s, .int .i64 a, conV k q g x] w' fun e w'' => (∃ v, e = .returned (.tuple #[v, .int .i64 (lsE (lrSt F s a q g x)), .bool (lsY (lrSt F s a q g x))]) ∧ w''.ownsRow w'.heap.size 3 1 v (lsL (lrSt F s a q g x)).length ((lsL (lrSt F s a q g x)).map (Value.int .i64))) ∧ Below w'.heap.size w' w'') := fun h1 h2 h3 w' => by
    have ha : 0 ≤ a ∧ a ≤ (s.size : Int) := by simpa using h2
    have hp : placeB s a = true := by unfold placeB; rw [h1, h2]; rfl
    obtain ⟨p, rfl⟩ : ∃ p : Nat, a = (p : Int) := ⟨a.toNat, by omega⟩
    rw [lrSt_yes hp h3]
    exact specL14Read hF h1 p k q g x w' (by omega)
  have HN : Hid (rowOkB s = false ∨ (decide (0 ≤ a) && decide (a ≤ (s.size : Int))) = false ∨ parB q g x = false → lrSt F s a q g x = none) := fun h => lrSt_no (by
    unfold placeB
    rcases h with h | h | h <;> rw [h] <;> simp)
  clear hF
  unfold maxLen at hm
  have hm' : (s.size : Int) ≤ 9223372036854775807 := by omega
  generalize lrSt F s a q g x = st at *
  generalize rowOkB s = X at *
  generalize (decide (0 ≤ a) && decide (a ≤ (s.size : Int))) = U at *
  generalize parB q g x = Y at *
  go_enter Tryd.func21, Tryd.ntmps21
  go_wp2_with fail
  generalize World.alloc w _ = V at *
  have BK : Hid (∀ w', Below V.heap.size V w' → (w'.cell? ⟨w.heap.size, 0, none⟩ = some (.bool k) ∧ w'.cell? ⟨w.heap.size, 1, none⟩ = some (.int .i64 q) ∧ w'.cell? ⟨w.heap.size, 2, none⟩ = some (.bool g) ∧ w'.cell? ⟨w.heap.size, 3, none⟩ = some (.bool x))) := fun w' h => (B0.below h B0.lt).four.1
  clear B0
  have hbs := hb0.size
  refine (CP.out V).mono ?_
  rintro e w1 ⟨rfl, hb1⟩
  have hbw1 := hb0.trans (hb1.mono hbs)
  rcases X with _ | _
  · obtain rfl : st = none := HN.out (.inl rfl)
    go_wp2
    go_ret3
    exact ⟨⟨_, rfl, own_none w1 hbw1.size⟩, hbw1.alloc hbw1.size _⟩
  rcases U with _ | _
  · obtain rfl : st = none := HN.out (.inr (.inl rfl))
    go_wp2_with (go_at_call 47; refine (CI.out _).mono ?_; rintro e w2 ⟨rfl, hw⟩; subst w2)
    go_ret3
    exact ⟨⟨_, rfl, own_none w1 hbw1.size⟩, hbw1.alloc hbw1.size _⟩
  obtain ⟨x0, x1, x2, x3⟩ := BK.out w1 hb1
  go_wp2_with (go_at_call 47; refine (CI.out _).mono ?_; rintro e w2 ⟨rfl, hw⟩; subst w2)
  refine (CC.out w1).mono ?_
  rintro e w2 ⟨rfl, hc⟩
  have hb2 := hb1.trans (hc.mono hb1.size)
  have hbw2 := hb0.trans (hb2.mono hbs)
  clear x0 x1 x2 x3
  rcases Y with _ | _
  · obtain rfl : st = none := HN.out (.inr (.inr rfl))
    go_wp2
    go_ret3
    exact ⟨⟨_, rfl, own_none w2 hbw2.size⟩, hbw2.alloc hbw2.size _⟩
  obtain ⟨x0, x1, x2, x3⟩ := BK.out w2 hb2
  go_wp2_with fail
  refine (CL.out (by trivial) (by trivial) (by trivial) w2).mono ?_
  rintro e w3 ⟨⟨v, rfl, ho⟩, hc3⟩
  have HO : Hid (World.ownsRow _ _ _ _ _ _ _) := own_mono ho hbw2.size
  have hb3 := hbw2.trans (hc3.mono hbw2.size)
  clear ho hc3 x0 x1 x2 x3
  go_wp2
  go_ret3
  exact ⟨⟨_, rfl, HO.out⟩, hb3⟩
end Go.Proofs.YtlejfkjanllgbaaDoor
