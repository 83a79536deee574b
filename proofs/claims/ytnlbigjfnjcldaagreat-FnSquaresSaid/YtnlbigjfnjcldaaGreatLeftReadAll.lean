/-
  Levels out of a row: what stands there as a function, and the walks of impl.levelsAt and impl.ReadLevels.
  Levels out of a row at every argument: the walks of impl.ReadLevels, spec.l14Read and spec.ReadLevels.
-/
import Derived.Test.YtnlbigjfnjcldaaGreatReadAll
import Derived.Test.YtnlbigjfnjcldaaGreatLeftWay
import Derived.Test.YtnlbigjfnjcldaaGreatIntAll
import Derived.Deep.AppendLies
import Derived.Test.YtnlbigjfnjcldaaGreatRowWalks
set_option maxRecDepth 20000
namespace Go.Proofs.YtnlbigjfnjcldaaGreat
open Go.RowKit
set_option linter.unusedVariables false
set_option maxRecDepth 20000

abbrev LSt := Option ((Nat → Int) × Nat)
/-- m pieces of n levels, one behind the other, from p on. -/
def rdM (F : Nat → Option (Int × Nat)) (n p : Nat) : Nat → LSt
  | 0 => some (fun _ => 0, p)
  | m + 1 => match rdM F n p m with
    | none => none
    | some (f, e) => match readR F n e with
      | none => none
      | some (g, _, e') => some (fun i => if i < n * m then f i else g (i - n * m), e')
theorem rdM_some {F : Nat → Option (Int × Nat)} {n p m e e' kk : Nat} {f g : Nat → Int} (h : rdM F n p m = some (f, e)) (h2 : readR F n e = some (g, kk, e')) : rdM F n p (m + 1) = some (fun i => if i < n * m then f i else g (i - n * m), e') := by
  simp only [rdM, h, h2]
theorem rdM_none {F : Nat → Option (Int × Nat)} {n p m e : Nat} {f : Nat → Int} (h : rdM F n p m = some (f, e)) (h2 : readR F n e = none) : rdM F n p (m + 1) = none := by
  simp only [rdM, h, h2]
theorem rdM_stays {F : Nat → Option (Int × Nat)} {n p m : Nat} (h : rdM F n p m = none) : ∀ j, m ≤ j → rdM F n p j = none
  | 0, hj => by
    obtain rfl : m = 0 := by omega
    exact h
  | j + 1, hj => by
    rcases Nat.lt_or_ge j m with h0 | h0
    · obtain rfl : m = j + 1 := by omega
      exact h
    · simp only [rdM, rdM_stays h j h0]
theorem readR_end {s : ByteArray} {F : Nat → Option (Int × Nat)} (hF : IsCnt s F) (hr : rowOkB s = true) {n p kk e : Nat} {g : Nat → Int} (hp : p ≤ s.size) (h : readR F n p = some (g, kk, e)) : e ≤ s.size := by
  cases h0 : F p with
  | none => rw [readR_none h0] at h; cases h
  | some r =>
    obtain ⟨m, q⟩ := r
    obtain ⟨_, _, hq⟩ := hF.bd hr h0
    rw [readR_some h0] at h
    exact (iterR_bd hF hr hq _ _ _ _ h).2.2
theorem rdM_list (n m : Nat) (f g : Nat → Int) : (listF (n * m) f).map (Value.int .i64) ++ (listF n g).map (Value.int .i64) = (listF (n * m + n) (fun i => if i < n * m then f i else g (i - n * m))).map (Value.int .i64) := by
  rw [← List.map_append, ← listF_append]
  congr 2
  · exact listF_congr fun i hi => by rw [if_pos hi]
  · exact listF_congr fun i hi => by rw [if_neg (by omega)]; congr 1; omega
def lsL (st : LSt) : List Int := match st with | none => [] | some (f, _) => listF 64 f
def lsE (st : LSt) : Int := match st with | none => 0 | some (_, e) => (e : Int)
def lsY (st : LSt) : Bool := match st with | none => false | some _ => true
theorem lsL_le (st : LSt) : (lsL st).length ≤ 64 := by
  cases st with
  | none => simp [lsL]
  | some r => rw [show lsL (some r) = listF 64 r.1 from rfl, listF_length]; omega
/-- How many levels have a row together, and how many such rows there are. -/
def lrN (g x : Bool) : Nat := if (g || x) = true then 64 else 16
def lrC (g x : Bool) : Nat := if (g || x) = true then 1 else 4
def lenV : Value → Nat
  | .slice _ n _ => n
  | _ => 0
theorem wayV_piece (g x : Bool) : ∃ a b, wayV g x = .agg #[a, b, .int .i64 (lrN g x : Int)] := by
  cases x with
  | true => exact ⟨_, _, by cases g <;> rfl⟩
  | false =>
    cases g with
    | true => exact ⟨_, _, rfl⟩
    | false => exact ⟨_, _, rfl⟩

set_option maxHeartbeats 3200000 in
theorem levelsAt_16 {s : ByteArray} {F : Nat → Option (Int × Nat)} (hF : IsCnt s F) (hr : rowOkB s = true) (p : Nat) (k : Bool) (q : Int) (g x : Bool) (w : World) (hp : p ≤ s.size) (hn : lrN g x = 16) :
    Calls Tryz.prog 118 #[.string s, .int .i64 (p : Int), conV k q g x] w fun e w' => (∃ v, e = .returned (.tuple #[v, .int .i64 (lsE (rdM F 16 p 4)), .bool (lsY (rdM F 16 p 4))]) ∧ w'.ownsRow w.heap.size 3 1 v (lsL (rdM F 16 p 4)).length ((lsL (rdM F 16 p 4)).map (Value.int .i64))) ∧ Below w.heap.size w w' := by
  obtain ⟨i0, hi0, hz0, hz1, hz2⟩ := info_parts infoI
  have B0 := Blk.new w #[.bool k, .int .i64 q, .bool g, .bool x] 26
  have hb0 := (Below.refl w.heap.size w).alloc (Nat.le_refl _) (.cells #[.bool k, .int .i64 q, .bool g, .bool x] 26)
  obtain ⟨wa, wb, hw⟩ := wayV_piece g x
  rw [hn] at hw
  have CW : Hid (∀ w', Calls Tryz.prog 123 #[conV k q g x] w' fun e w'' => e = .returned (.agg #[wa, wb, .int .i64 16]) ∧ Below w'.heap.size w' w'') := fun w' => by
    have := way_any k q g x w'
    rwa [hw] at this
  have CR : Hid (∀ (e : Nat) w', e ≤ s.size → Calls Tryz.prog 124 #[.string s, .int .i64 (e : Int), .int .i64 16] w' fun e' w'' => (∃ v, e' = .returned (.tuple #[v, .int .i64 (ansE (readR F 16 e)), .bool (ansY (readR F 16 e))]) ∧ w''.ownsRow w'.heap.size 3 1 v (ansL 16 (readR F 16 e)).length ((ansL 16 (readR F 16 e)).map (Value.int .i64))) ∧ Below w'.heap.size w' w'') := fun e w' he => implRunsAt hF hr e 16 w' he (by omega) (by omega)
  have HE : Hid (∀ (e kk e' : Nat) (g : Nat → Int), e ≤ s.size → readR F 16 e = some (g, kk, e') → e' ≤ s.size) := fun e kk e' g he h => readR_end hF hr he h
  have HM : Hid (∀ (m e kk e' : Nat) (f g : Nat → Int), rdM F 16 p m = some (f, e) → readR F 16 e = some (g, kk, e') → rdM F 16 p (m + 1) = some (fun i => if i < 16 * m then f i else g (i - 16 * m), e')) := fun m e kk e' f g h1 h2 => rdM_some h1 h2
  have HX : Hid (∀ (m e : Nat) (f : Nat → Int), m < 4 → rdM F 16 p m = some (f, e) → readR F 16 e = none → rdM F 16 p 4 = none) := fun m e f hm h1 h2 => rdM_stays (rdM_none h1 h2) 4 (by omega)
  have H0 : Hid (rdM F 16 p 0 = some (fun _ => 0, p)) := rfl
  obtain ⟨st, HST⟩ : ∃ st, Hid (rdM F 16 p 4 = st) := ⟨_, rfl⟩
  rw [HST.out]
  clear hw hn hr hF
  have hp' : (p : Int) ≤ (s.size : Int) := by omega
  go_enter Tryz.func118, Tryz.ntmps118
  go_wp2_with fail
  generalize World.alloc w _ = V at *
  clear B0
  refine (CW.out V).mono ?_
  rintro e w1 ⟨rfl, hb1⟩
  have hbs := hb0.size
  have hfl : ∀ (a b c : Value) (W : World), (Instr.field 151 (.agg #[a, b, c]) 2).run Tryz.prog W = .ok c W := way_piece
  go_wp2_with (at_make; refine wpList_make_own _ rfl _ _ 32 rfl V.heap.size 3 i0 (.int .i64 0) 1 Tryz.underlying32 hi0 hz0 hz1 .i64 .i64 _ 64 rfl rfl rfl (by rw [hz2]; omega) (by unfold maxLen; omega) hb1.size ?_; intro w2 hown0 hgrow0; have hb2 : Below V.heap.size V w2 := hb1.grown hgrow0 hb1.size (fun j hj => by cases hj); clear hgrow0)
  clear hfl hb1
  generalize hs : V.heap.size = z at *
  go_loopw [10, 1] (fun u at' wr => ∃ (m e : Nat) (f : Nat → Int), m ≤ 4 ∧ at' = .int .i64 (e : Int) ∧ e ≤ s.size ∧ Hid (rdM F 16 p m = some (f, e)) ∧ wr.ownsRow z 3 1 u (16 * m) ((listF (16 * m) f).map (Value.int .i64)) ∧ Below z V wr) (fun u _ _ => 64 - lenV u)
  case atStart => exact ⟨0, p, fun _ => 0, by omega, rfl, hp, H0, hown0, hb2⟩
  case round =>
    obtain ⟨m, e, f, hm, rfl, he, HMf, hown, hb⟩ := hrel
    clear hown0 hb2
    obtain ⟨ua, uc, rfl⟩ : ∃ a c, u10 = .slice a (16 * m) c := by
      obtain ⟨a, c, h, _⟩ := ints_of_owns (xs := listF (16 * m) f) hown
      exact ⟨a, c, by rw [h, listF_length]⟩
    have hbz : z ≤ wr.heap.size := by rw [← hs]; exact hb.size
    have he0 : (0 : Int) ≤ (e : Int) := by omega
    by_cases hlt : m < 4
    · have l1 : ((16 * m : Nat) : Int) < 64 := by omega
      have l1' : 16 * (m : Int) < 64 := by omega
      cases hre : readR F 16 e with
      | none =>
        have HN : Hid (rdM F 16 p 4 = none) := HX.out m e f hlt HMf.out hre
        have hst : st = none := by rw [← HST.out, HN.out]
        subst hst
        have CE := CR.out e wr he
        rw [hre] at CE
        have CE' : Hid (Calls Tryz.prog _ _ _ _) := CE
        clear CE hre
        go_wp2_with fail
        refine CE'.out.mono ?_
        rintro e' w3 ⟨⟨v, rfl, ho⟩, hc⟩
        have hb3 := hb0.trans ((hb.trans (hc.mono hbz)).mono hbs)
        clear ho hc
        go_wp2
        go_ret3
        exact ⟨⟨_, rfl, own_none w3 hb3.size⟩, hb3.alloc hb3.size _⟩
      | some r =>
        obtain ⟨gg, kk, e'⟩ := r
        have HNx : Hid (rdM F 16 p (m + 1) = some (fun i => if i < 16 * m then f i else gg (i - 16 * m), e')) := HM.out m e kk e' f gg HMf.out hre
        have hee := HE.out e kk e' gg he hre
        have CE := CR.out e wr he
        rw [hre] at CE
        have CE' : Hid (Calls Tryz.prog 124 #[.string s, .int .i64 (e : Int), .int .i64 16] wr fun e0 w'' => (∃ v, e0 = .returned (.tuple #[v, .int .i64 (e' : Int), .bool true]) ∧ w''.ownsRow wr.heap.size 3 1 v 16 ((listF 16 gg).map (Value.int .i64))) ∧ Below wr.heap.size wr w'') := by
          have q := CE
          rw [show ansL 16 (some (gg, kk, e')) = listF 16 gg from rfl, listF_length] at q
          exact q
        have HLn : Hid (((listF 16 gg).map (Value.int .i64)).length = 16 * 1) := by show _ = _; rw [List.length_map, listF_length]
        have HAp : Hid _ := rdM_list 16 m f gg
        clear CE hre
        go_wp2_with fail
        refine CE'.out.mono ?_
        rintro e0 w3 ⟨⟨v, rfl, ho⟩, hc⟩
        obtain ⟨g3, c3, rfl, _, _⟩ := World.ownsRow.form ho (by omega)
        have hi3 : Ints w3 (some ⟨g3, 0, none⟩) (listF 16 gg) := owned_at (xs := listF 16 gg) (by rw [listF_length]; exact ho)
        have NW := news_of_list hi3
        have hb3 : Below z V w3 := hb.trans (hc.mono hbz)
        have hown3 := owned_below hown hc
        have hz3 : z ≤ w3.heap.size := by rw [← hs]; exact hb3.size
        clear ho hc hi3 hown
        go_wp2_with (at_builtin; refine wpList_append_lies _ (by rfl) _ _ 32 (by rfl) z 3 i0 (.int .i64 0) 1 8 Tryz.underlying32 hi0 hz0 hz1 hz2 rfl (by omega) (.slice ua (16 * m) uc) (16 * m) _ (by rfl) hown3 ⟨g3, 0, none⟩ 16 c3 ((listF 16 gg).map (Value.int .i64)) (by rfl) HLn.out NW (ones_of_list _) (by omega) (by unfold maxLen; omega) (by omega) hz3 (w3.heap.size) rfl ?_; intro g7 c7 w7 hown7 hgrow hat hlt7)
        have hb7 := hb3.grown hgrow hz3 (base_of_own hown3)
        rw [HAp.out] at hown7
        have HO7 : Hid (World.ownsRow _ _ _ _ _ _ _) := hown7
        clear hown7 hown3 hgrow hat NW
        refine ⟨⟨m + 1, e', _, by omega, rfl, hee, HNx, HO7.out, hb7⟩, ?_⟩
        simp [lenV]; omega
    · obtain rfl : m = 4 := by omega
      have hst : st = some (f, e) := by rw [← HST.out, HMf.out]
      subst hst
      have HO : Hid (w.heap.size ≤ w.heap.size ∧ wr.ownsRow w.heap.size 3 1 (.slice ua (16 * 4) uc) (lsL (some (f, e))).length ((lsL (some (f, e))).map (Value.int .i64))) := ⟨Nat.le_refl _, by
        rw [show lsL (some (f, e)) = listF 64 f from rfl, listF_length]
        exact own_mono hown hbs⟩
      have hbf := hb0.trans (hb.mono hbs)
      clear hown
      go_wp2
      go_ret3
      exact ⟨⟨_, rfl, HO.out.2⟩, hbf⟩

set_option maxHeartbeats 3200000 in
theorem levelsAt_64 {s : ByteArray} {F : Nat → Option (Int × Nat)} (hF : IsCnt s F) (hr : rowOkB s = true) (p : Nat) (k : Bool) (q : Int) (g x : Bool) (w : World) (hp : p ≤ s.size) (hn : lrN g x = 64) :
    Calls Tryz.prog 118 #[.string s, .int .i64 (p : Int), conV k q g x] w fun e w' => (∃ v, e = .returned (.tuple #[v, .int .i64 (lsE (rdM F 64 p 1)), .bool (lsY (rdM F 64 p 1))]) ∧ w'.ownsRow w.heap.size 3 1 v (lsL (rdM F 64 p 1)).length ((lsL (rdM F 64 p 1)).map (Value.int .i64))) ∧ Below w.heap.size w w' := by
  obtain ⟨i0, hi0, hz0, hz1, hz2⟩ := info_parts infoI
  have B0 := Blk.new w #[.bool k, .int .i64 q, .bool g, .bool x] 26
  have hb0 := (Below.refl w.heap.size w).alloc (Nat.le_refl _) (.cells #[.bool k, .int .i64 q, .bool g, .bool x] 26)
  obtain ⟨wa, wb, hw⟩ := wayV_piece g x
  rw [hn] at hw
  have CW : Hid (∀ w', Calls Tryz.prog 123 #[conV k q g x] w' fun e w'' => e = .returned (.agg #[wa, wb, .int .i64 64]) ∧ Below w'.heap.size w' w'') := fun w' => by
    have := way_any k q g x w'
    rwa [hw] at this
  have CR : Hid (∀ (e : Nat) w', e ≤ s.size → Calls Tryz.prog 124 #[.string s, .int .i64 (e : Int), .int .i64 64] w' fun e' w'' => (∃ v, e' = .returned (.tuple #[v, .int .i64 (ansE (readR F 64 e)), .bool (ansY (readR F 64 e))]) ∧ w''.ownsRow w'.heap.size 3 1 v (ansL 64 (readR F 64 e)).length ((ansL 64 (readR F 64 e)).map (Value.int .i64))) ∧ Below w'.heap.size w' w'') := fun e w' he => implRunsAt hF hr e 64 w' he (by omega) (by omega)
  have HE : Hid (∀ (e kk e' : Nat) (g : Nat → Int), e ≤ s.size → readR F 64 e = some (g, kk, e') → e' ≤ s.size) := fun e kk e' g he h => readR_end hF hr he h
  have HM : Hid (∀ (m e kk e' : Nat) (f g : Nat → Int), rdM F 64 p m = some (f, e) → readR F 64 e = some (g, kk, e') → rdM F 64 p (m + 1) = some (fun i => if i < 64 * m then f i else g (i - 64 * m), e')) := fun m e kk e' f g h1 h2 => rdM_some h1 h2
  have HX : Hid (∀ (m e : Nat) (f : Nat → Int), m < 1 → rdM F 64 p m = some (f, e) → readR F 64 e = none → rdM F 64 p 1 = none) := fun m e f hm h1 h2 => rdM_stays (rdM_none h1 h2) 1 (by omega)
  have H0 : Hid (rdM F 64 p 0 = some (fun _ => 0, p)) := rfl
  obtain ⟨st, HST⟩ : ∃ st, Hid (rdM F 64 p 1 = st) := ⟨_, rfl⟩
  rw [HST.out]
  clear hw hn hr hF
  have hp' : (p : Int) ≤ (s.size : Int) := by omega
  go_enter Tryz.func118, Tryz.ntmps118
  go_wp2_with fail
  generalize World.alloc w _ = V at *
  clear B0
  refine (CW.out V).mono ?_
  rintro e w1 ⟨rfl, hb1⟩
  have hbs := hb0.size
  have hfl : ∀ (a b c : Value) (W : World), (Instr.field 151 (.agg #[a, b, c]) 2).run Tryz.prog W = .ok c W := way_piece
  go_wp2_with (at_make; refine wpList_make_own _ rfl _ _ 32 rfl V.heap.size 3 i0 (.int .i64 0) 1 Tryz.underlying32 hi0 hz0 hz1 .i64 .i64 _ 64 rfl rfl rfl (by rw [hz2]; omega) (by unfold maxLen; omega) hb1.size ?_; intro w2 hown0 hgrow0; have hb2 : Below V.heap.size V w2 := hb1.grown hgrow0 hb1.size (fun j hj => by cases hj); clear hgrow0)
  clear hfl hb1
  generalize hs : V.heap.size = z at *
  go_loopw [10, 1] (fun u at' wr => ∃ (m e : Nat) (f : Nat → Int), m ≤ 1 ∧ at' = .int .i64 (e : Int) ∧ e ≤ s.size ∧ Hid (rdM F 64 p m = some (f, e)) ∧ wr.ownsRow z 3 1 u (64 * m) ((listF (64 * m) f).map (Value.int .i64)) ∧ Below z V wr) (fun u _ _ => 64 - lenV u)
  case atStart => exact ⟨0, p, fun _ => 0, by omega, rfl, hp, H0, hown0, hb2⟩
  case round =>
    obtain ⟨m, e, f, hm, rfl, he, HMf, hown, hb⟩ := hrel
    clear hown0 hb2
    obtain ⟨ua, uc, rfl⟩ : ∃ a c, u10 = .slice a (64 * m) c := by
      obtain ⟨a, c, h, _⟩ := ints_of_owns (xs := listF (64 * m) f) hown
      exact ⟨a, c, by rw [h, listF_length]⟩
    have hbz : z ≤ wr.heap.size := by rw [← hs]; exact hb.size
    have he0 : (0 : Int) ≤ (e : Int) := by omega
    by_cases hlt : m < 1
    · have l1 : ((64 * m : Nat) : Int) < 64 := by omega
      have l1' : 64 * (m : Int) < 64 := by omega
      cases hre : readR F 64 e with
      | none =>
        have HN : Hid (rdM F 64 p 1 = none) := HX.out m e f hlt HMf.out hre
        have hst : st = none := by rw [← HST.out, HN.out]
        subst hst
        have CE := CR.out e wr he
        rw [hre] at CE
        have CE' : Hid (Calls Tryz.prog _ _ _ _) := CE
        clear CE hre
        go_wp2_with fail
        refine CE'.out.mono ?_
        rintro e' w3 ⟨⟨v, rfl, ho⟩, hc⟩
        have hb3 := hb0.trans ((hb.trans (hc.mono hbz)).mono hbs)
        clear ho hc
        go_wp2
        go_ret3
        exact ⟨⟨_, rfl, own_none w3 hb3.size⟩, hb3.alloc hb3.size _⟩
      | some r =>
        obtain ⟨gg, kk, e'⟩ := r
        have HNx : Hid (rdM F 64 p (m + 1) = some (fun i => if i < 64 * m then f i else gg (i - 64 * m), e')) := HM.out m e kk e' f gg HMf.out hre
        have hee := HE.out e kk e' gg he hre
        have CE := CR.out e wr he
        rw [hre] at CE
        have CE' : Hid (Calls Tryz.prog 124 #[.string s, .int .i64 (e : Int), .int .i64 64] wr fun e0 w'' => (∃ v, e0 = .returned (.tuple #[v, .int .i64 (e' : Int), .bool true]) ∧ w''.ownsRow wr.heap.size 3 1 v 64 ((listF 64 gg).map (Value.int .i64))) ∧ Below wr.heap.size wr w'') := by
          have q := CE
          rw [show ansL 64 (some (gg, kk, e')) = listF 64 gg from rfl, listF_length] at q
          exact q
        have HLn : Hid (((listF 64 gg).map (Value.int .i64)).length = 64 * 1) := by show _ = _; rw [List.length_map, listF_length]
        have HAp : Hid _ := rdM_list 64 m f gg
        clear CE hre
        go_wp2_with fail
        refine CE'.out.mono ?_
        rintro e0 w3 ⟨⟨v, rfl, ho⟩, hc⟩
        obtain ⟨g3, c3, rfl, _, _⟩ := World.ownsRow.form ho (by omega)
        have hi3 : Ints w3 (some ⟨g3, 0, none⟩) (listF 64 gg) := owned_at (xs := listF 64 gg) (by rw [listF_length]; exact ho)
        have NW := news_of_list hi3
        have hb3 : Below z V w3 := hb.trans (hc.mono hbz)
        have hown3 := owned_below hown hc
        have hz3 : z ≤ w3.heap.size := by rw [← hs]; exact hb3.size
        clear ho hc hi3 hown
        go_wp2_with (at_builtin; refine wpList_append_lies _ (by rfl) _ _ 32 (by rfl) z 3 i0 (.int .i64 0) 1 8 Tryz.underlying32 hi0 hz0 hz1 hz2 rfl (by omega) (.slice ua (64 * m) uc) (64 * m) _ (by rfl) hown3 ⟨g3, 0, none⟩ 64 c3 ((listF 64 gg).map (Value.int .i64)) (by rfl) HLn.out NW (ones_of_list _) (by omega) (by unfold maxLen; omega) (by omega) hz3 (w3.heap.size) rfl ?_; intro g7 c7 w7 hown7 hgrow hat hlt7)
        have hb7 := hb3.grown hgrow hz3 (base_of_own hown3)
        rw [HAp.out] at hown7
        have HO7 : Hid (World.ownsRow _ _ _ _ _ _ _) := hown7
        clear hown7 hown3 hgrow hat NW
        refine ⟨⟨m + 1, e', _, by omega, rfl, hee, HNx, HO7.out, hb7⟩, ?_⟩
        simp [lenV]; omega
    · obtain rfl : m = 1 := by omega
      have hst : st = some (f, e) := by rw [← HST.out, HMf.out]
      subst hst
      have HO : Hid (w.heap.size ≤ w.heap.size ∧ wr.ownsRow w.heap.size 3 1 (.slice ua (64 * 1) uc) (lsL (some (f, e))).length ((lsL (some (f, e))).map (Value.int .i64))) := ⟨Nat.le_refl _, by
        rw [show lsL (some (f, e)) = listF 64 f from rfl, listF_length]
        exact own_mono hown hbs⟩
      have hbf := hb0.trans (hb.mono hbs)
      clear hown
      go_wp2
      go_ret3
      exact ⟨⟨_, rfl, HO.out.2⟩, hbf⟩
end Go.Proofs.YtnlbigjfnjcldaaGreat

namespace Go.Proofs.YtnlbigjfnjcldaaGreat
open Go.RowKit
set_option linter.unusedVariables false

def lrSt (F : Nat → Option (Int × Nat)) (s : ByteArray) (a q : Int) (g x : Bool) : LSt := if (placeB s a && parB q g x) = true then rdM F (lrN g x) a.toNat (lrC g x) else none
theorem lrSt_yes {F : Nat → Option (Int × Nat)} {s : ByteArray} {p : Nat} {q : Int} {g x : Bool} (h : placeB s (p : Int) = true) (h2 : parB q g x = true) : lrSt F s (p : Int) q g x = rdM F (lrN g x) p (lrC g x) := by
  unfold lrSt
  rw [if_pos (by rw [h, h2]; rfl), Int.toNat_natCast]
theorem lrSt_no {F : Nat → Option (Int × Nat)} {s : ByteArray} {a q : Int} {g x : Bool} (h : (placeB s a && parB q g x) = false) : lrSt F s a q g x = none := if_neg (by rw [h]; decide)
theorem lr_cases (g x : Bool) : (lrN g x = 16 ∧ lrC g x = 4 ∧ g = false ∧ x = false) ∨ (lrN g x = 64 ∧ lrC g x = 1 ∧ (g || x) = true) := by
  cases g <;> cases x <;> simp [lrN, lrC]

theorem levelsAt_any {s : ByteArray} {F : Nat → Option (Int × Nat)} (hF : IsCnt s F) (hr : rowOkB s = true) (p : Nat) (k : Bool) (q : Int) (g x : Bool) (w : World) (hp : p ≤ s.size) :
    Calls Tryz.prog 118 #[.string s, .int .i64 (p : Int), conV k q g x] w fun e w' => (∃ v, e = .returned (.tuple #[v, .int .i64 (lsE (rdM F (lrN g x) p (lrC g x))), .bool (lsY (rdM F (lrN g x) p (lrC g x)))]) ∧ w'.ownsRow w.heap.size 3 1 v (lsL (rdM F (lrN g x) p (lrC g x))).length ((lsL (rdM F (lrN g x) p (lrC g x))).map (Value.int .i64))) ∧ Below w.heap.size w w' := by
  rcases lr_cases g x with ⟨h1, h2, _⟩ | ⟨h1, h2, _⟩
  · rw [h1, h2]
    exact levelsAt_16 hF hr p k q g x w hp h1
  · rw [h1, h2]
    exact levelsAt_64 hF hr p k q g x w hp h1

theorem rdM_one {F : Nat → Option (Int × Nat)} (p : Nat) : lsL (rdM F 64 p 1) = ansL 64 (readR F 64 p) ∧ lsE (rdM F 64 p 1) = ansE (readR F 64 p) ∧ lsY (rdM F 64 p 1) = ansY (readR F 64 p) := by
  cases h : readR F 64 p with
  | none =>
    have e : rdM F 64 p 1 = none := by simp only [rdM, h]
    rw [e]
    exact ⟨rfl, rfl, rfl⟩
  | some r =>
    obtain ⟨g, kk, e'⟩ := r
    have e : rdM F 64 p 1 = some (fun i => if i < 64 * 0 then (fun _ => (0 : Int)) i else g (i - 64 * 0), e') := by simp only [rdM, h]
    rw [e]
    refine ⟨?_, rfl, rfl⟩
    show listF 64 _ = listF 64 g
    exact listF_congr fun i hi => by rw [if_neg (by omega)]; congr 1

set_option maxHeartbeats 1600000 in
theorem specRead_large {s : ByteArray} {F : Nat → Option (Int × Nat)} (hF : IsCnt s F) (hr : rowOkB s = true) (p : Nat) (k : Bool) (q : Int) (g x : Bool) (w : World) (hp : p ≤ s.size) (hgx : (g || x) = true) :
    Calls Tryz.prog 62 #[.string s, .int .i64 (p : Int), conV k q g x] w fun e w' => (∃ v, e = .returned (.tuple #[v, .int .i64 (ansE (readR F 64 p)), .bool (ansY (readR F 64 p))]) ∧ w'.ownsRow w.heap.size 3 1 v (ansL 64 (readR F 64 p)).length ((ansL 64 (readR F 64 p)).map (Value.int .i64))) ∧ Below w.heap.size w w' := by
  have hb0 := (Below.refl w.heap.size w).alloc (Nat.le_refl _) (.cells #[.bool k, .int .i64 q, .bool g, .bool x] 26)
  have CL : Hid (∀ w', Calls Tryz.prog 71 #[.string s, .int .i64 (p : Int), .int .i64 64] w' fun e w'' => (∃ v, e = .returned (.tuple #[v, .int .i64 (ansE (readR F 64 p)), .bool (ansY (readR F 64 p))]) ∧ w''.ownsRow w'.heap.size 3 1 v (ansL 64 (readR F 64 p)).length ((ansL 64 (readR F 64 p)).map (Value.int .i64))) ∧ Below w'.heap.size w' w'') := fun w' => specL11Read hF hr p 64 w' hp (by omega) (by omega)
  generalize readR F 64 p = st at *
  clear hF hr hp
  have hbs := hb0.size
  have HG : Hid ((g || x) = true) := hgx
  cases g with
  | true =>
    clear hgx
    go_enter Tryz.func62, Tryz.ntmps62
    go_wp2_with fail
    generalize World.alloc w _ = V at *
    refine (CL.out V).mono ?_
    rintro e w3 ⟨⟨v, rfl, ho⟩, hc3⟩
    have HO : Hid (World.ownsRow _ _ _ _ _ _ _) := own_mono ho hbs
    have hb3 := hb0.trans (hc3.mono hbs)
    clear ho hc3
    go_wp2
    go_ret3
    exact ⟨⟨_, rfl, HO.out⟩, hb3⟩
  | false =>
    obtain rfl : x = true := by simpa using hgx
    clear hgx
    go_enter Tryz.func62, Tryz.ntmps62
    go_wp2_with fail
    generalize World.alloc w _ = V at *
    refine (CL.out V).mono ?_
    rintro e w3 ⟨⟨v, rfl, ho⟩, hc3⟩
    have HO : Hid (World.ownsRow _ _ _ _ _ _ _) := own_mono ho hbs
    have hb3 := hb0.trans (hc3.mono hbs)
    clear ho hc3
    go_wp2
    go_ret3
    exact ⟨⟨_, rfl, HO.out⟩, hb3⟩

set_option maxHeartbeats 3200000 in
theorem specRead_small {s : ByteArray} {F : Nat → Option (Int × Nat)} (hF : IsCnt s F) (hr : rowOkB s = true) (p : Nat) (k : Bool) (q : Int) (w : World) (hp : p ≤ s.size) :
    Calls Tryz.prog 62 #[.string s, .int .i64 (p : Int), conV k q false false] w fun e w' => (∃ v, e = .returned (.tuple #[v, .int .i64 (lsE (rdM F 16 p 4)), .bool (lsY (rdM F 16 p 4))]) ∧ w'.ownsRow w.heap.size 3 1 v (lsL (rdM F 16 p 4)).length ((lsL (rdM F 16 p 4)).map (Value.int .i64))) ∧ Below w.heap.size w w' := by
  obtain ⟨i0, hi0, hz0, hz1, hz2⟩ := info_parts infoI
  have B0 := Blk.new w #[.bool k, .int .i64 q, .bool false, .bool false] 26
  have hb0 := (Below.refl w.heap.size w).alloc (Nat.le_refl _) (.cells #[.bool k, .int .i64 q, .bool false, .bool false] 26)
  have CR : Hid (∀ (e : Nat) w', e ≤ s.size → Calls Tryz.prog 71 #[.string s, .int .i64 (e : Int), .int .i64 16] w' fun e' w'' => (∃ v, e' = .returned (.tuple #[v, .int .i64 (ansE (readR F 16 e)), .bool (ansY (readR F 16 e))]) ∧ w''.ownsRow w'.heap.size 3 1 v (ansL 16 (readR F 16 e)).length ((ansL 16 (readR F 16 e)).map (Value.int .i64))) ∧ Below w'.heap.size w' w'') := fun e w' he => specL11Read hF hr e 16 w' he (by omega) (by omega)
  have HE : Hid (∀ (e kk e' : Nat) (g : Nat → Int), e ≤ s.size → readR F 16 e = some (g, kk, e') → e' ≤ s.size) := fun e kk e' g he h => readR_end hF hr he h
  have HM : Hid (∀ (m e kk e' : Nat) (f g : Nat → Int), rdM F 16 p m = some (f, e) → readR F 16 e = some (g, kk, e') → rdM F 16 p (m + 1) = some (fun i => if i < 16 * m then f i else g (i - 16 * m), e')) := fun m e kk e' f g h1 h2 => rdM_some h1 h2
  have HX : Hid (∀ (m e : Nat) (f : Nat → Int), m < 4 → rdM F 16 p m = some (f, e) → readR F 16 e = none → rdM F 16 p 4 = none) := fun m e f hm h1 h2 => rdM_stays (rdM_none h1 h2) 4 (by omega)
  have H0 : Hid (rdM F 16 p 0 = some (fun _ => 0, p)) := rfl
  obtain ⟨st, HST⟩ : ∃ st, Hid (rdM F 16 p 4 = st) := ⟨_, rfl⟩
  rw [HST.out]
  clear hr hF
  have hp' : (p : Int) ≤ (s.size : Int) := by omega
  go_enter Tryz.func62, Tryz.ntmps62
  go_wp2_with fail
  have hsz1 : (World.alloc w (.cells #[.bool k, .int .i64 q, .bool false, .bool false] 26)).heap.size = w.heap.size + 1 := by simp
  generalize World.alloc w _ = V at *
  clear B0
  have hbs := hb0.size
  have HSZ : Hid (V.heap.size = w.heap.size + 1) := hsz1
  clear hsz1
  have hown0 : (V.alloc (.cells #[] 3)).ownsRow V.heap.size 3 1 (.slice (some ⟨V.heap.size, 0, none⟩) 0 0) 0 (([] : List Int).map (Value.int .i64)) := own_none V (Nat.le_refl _)
  have hb2 := (Below.refl V.heap.size V).alloc (Nat.le_refl _) (.cells #[] 3)
  generalize hs : V.heap.size = z at *
  generalize World.alloc V _ = V1 at *
  go_loopw [9, 10, 1] (fun u mi at' wr => ∃ (m e : Nat) (f : Nat → Int), m ≤ 4 ∧ mi = .int .i64 (m : Int) ∧ at' = .int .i64 (e : Int) ∧ e ≤ s.size ∧ Hid (rdM F 16 p m = some (f, e)) ∧ wr.ownsRow z 3 1 u (16 * m) ((listF (16 * m) f).map (Value.int .i64)) ∧ Below z V wr) (fun _ mi _ _ => 4 - (intOf mi).toNat)
  case atStart => exact ⟨0, p, fun _ => 0, by omega, rfl, rfl, hp, H0, by rw [← HSZ.out]; exact hown0, hb2⟩
  case round =>
    obtain ⟨m, e, f, hm, rfl, rfl, he, HMf, hown, hb⟩ := hrel
    have m0 : (0 : Int) ≤ (m : Int) := by omega
    clear hown0 hb2
    obtain ⟨ua, uc, rfl⟩ : ∃ a c, u9 = .slice a (16 * m) c := by
      obtain ⟨a, c, h, _⟩ := ints_of_owns (xs := listF (16 * m) f) hown
      exact ⟨a, c, by rw [h, listF_length]⟩
    have hbz : z ≤ wr.heap.size := by rw [← hs]; exact hb.size
    have he0 : (0 : Int) ≤ (e : Int) := by omega
    by_cases hlt : m < 4
    · have l1 : (m : Int) < 4 := by omega
      cases hre : readR F 16 e with
      | none =>
        have HN : Hid (rdM F 16 p 4 = none) := HX.out m e f hlt HMf.out hre
        have hst : st = none := by rw [← HST.out, HN.out]
        subst hst
        have CE := CR.out e wr he
        rw [hre] at CE
        have CE' : Hid (Calls Tryz.prog _ _ _ _) := CE
        clear CE hre
        go_wp2_with fail
        refine CE'.out.mono ?_
        rintro e' w3 ⟨⟨v, rfl, ho⟩, hc⟩
        have hb3 := hb0.trans ((hb.trans (hc.mono hbz)).mono hbs)
        clear ho hc
        go_wp2
        go_ret3
        exact ⟨⟨_, rfl, own_none w3 hb3.size⟩, hb3.alloc hb3.size _⟩
      | some r =>
        obtain ⟨gg, kk, e'⟩ := r
        have HNx : Hid (rdM F 16 p (m + 1) = some (fun i => if i < 16 * m then f i else gg (i - 16 * m), e')) := HM.out m e kk e' f gg HMf.out hre
        have hee := HE.out e kk e' gg he hre
        have CE := CR.out e wr he
        rw [hre] at CE
        have CE' : Hid (Calls Tryz.prog 71 #[.string s, .int .i64 (e : Int), .int .i64 16] wr fun e0 w'' => (∃ v, e0 = .returned (.tuple #[v, .int .i64 (e' : Int), .bool true]) ∧ w''.ownsRow wr.heap.size 3 1 v 16 ((listF 16 gg).map (Value.int .i64))) ∧ Below wr.heap.size wr w'') := by
          have q := CE
          rw [show ansL 16 (some (gg, kk, e')) = listF 16 gg from rfl, listF_length] at q
          exact q
        have HLn : Hid (((listF 16 gg).map (Value.int .i64)).length = 16 * 1) := by show _ = _; rw [List.length_map, listF_length]
        have HAp : Hid _ := rdM_list 16 m f gg
        clear CE hre
        go_wp2_with fail
        refine CE'.out.mono ?_
        rintro e0 w3 ⟨⟨v, rfl, ho⟩, hc⟩
        obtain ⟨g3, c3, rfl, _, _⟩ := World.ownsRow.form ho (by omega)
        have hi3 : Ints w3 (some ⟨g3, 0, none⟩) (listF 16 gg) := owned_at (xs := listF 16 gg) (by rw [listF_length]; exact ho)
        have NW := news_of_list hi3
        have hb3 : Below z V w3 := hb.trans (hc.mono hbz)
        have hown3 := owned_below hown hc
        have hz3 : z ≤ w3.heap.size := by rw [← hs]; exact hb3.size
        clear ho hc hi3 hown
        go_wp2_with (at_builtin; refine wpList_append_lies _ (by rfl) _ _ 32 (by rfl) z 3 i0 (.int .i64 0) 1 8 Tryz.underlying32 hi0 hz0 hz1 hz2 rfl (by omega) (.slice ua (16 * m) uc) (16 * m) _ (by rfl) hown3 ⟨g3, 0, none⟩ 16 c3 ((listF 16 gg).map (Value.int .i64)) (by rfl) HLn.out NW (ones_of_list _) (by omega) (by unfold maxLen; omega) (by omega) hz3 (w3.heap.size) rfl ?_; intro g7 c7 w7 hown7 hgrow hat hlt7)
        have hb7 := hb3.grown hgrow hz3 (base_of_own hown3)
        rw [HAp.out] at hown7
        have HO7 : Hid (World.ownsRow _ _ _ _ _ _ _) := hown7
        clear hown7 hown3 hgrow hat NW
        refine ⟨⟨m + 1, e', _, by omega, by go_num, rfl, hee, HNx, HO7.out, hb7⟩, ?_⟩
        simp [intOf]; omega
    · obtain rfl : m = 4 := by omega
      have hst : st = some (f, e) := by rw [← HST.out, HMf.out]
      subst hst
      have HO : Hid (w.heap.size ≤ w.heap.size ∧ wr.ownsRow w.heap.size 3 1 (.slice ua (16 * 4) uc) (lsL (some (f, e))).length ((lsL (some (f, e))).map (Value.int .i64))) := ⟨Nat.le_refl _, by
        rw [show lsL (some (f, e)) = listF 64 f from rfl, listF_length]
        exact own_mono hown hbs⟩
      have hbf := hb0.trans (hb.mono hbs)
      clear hown
      go_wp2
      go_ret3
      exact ⟨⟨_, rfl, HO.out.2⟩, hbf⟩

theorem specL14Read {s : ByteArray} {F : Nat → Option (Int × Nat)} (hF : IsCnt s F) (hr : rowOkB s = true) (p : Nat) (k : Bool) (q : Int) (g x : Bool) (w : World) (hp : p ≤ s.size) :
    Calls Tryz.prog 62 #[.string s, .int .i64 (p : Int), conV k q g x] w fun e w' => (∃ v, e = .returned (.tuple #[v, .int .i64 (lsE (rdM F (lrN g x) p (lrC g x))), .bool (lsY (rdM F (lrN g x) p (lrC g x)))]) ∧ w'.ownsRow w.heap.size 3 1 v (lsL (rdM F (lrN g x) p (lrC g x))).length ((lsL (rdM F (lrN g x) p (lrC g x))).map (Value.int .i64))) ∧ Below w.heap.size w w' := by
  rcases lr_cases g x with ⟨h1, h2, rfl, rfl⟩ | ⟨h1, h2, hgx⟩
  · rw [h1, h2]
    exact specRead_small hF hr p k q w hp
  · rw [h1, h2]
    obtain ⟨e1, e2, e3⟩ := rdM_one (F := F) p
    rw [e1, e2, e3]
    exact specRead_large hF hr p k q g x w hp hgx

end Go.Proofs.YtnlbigjfnjcldaaGreat
