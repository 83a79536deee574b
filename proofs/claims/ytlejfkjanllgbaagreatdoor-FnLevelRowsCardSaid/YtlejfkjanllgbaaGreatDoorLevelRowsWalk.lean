/-
  The walk of laws.FnLevelRows: drawn levels come back from their row, wherever it stands, and their differences after them.
-/
import Derived.Test.YtlejfkjanllgbaaGreatDoorLevRows
import Derived.Test.YtlejfkjanllgbaaGreatDoorLeftReadAll
import Derived.Test.YtlejfkjanllgbaaGreatDoorLeftTops
import Derived.Test.YtlejfkjanllgbaaGreatDoorDrawAll
import Derived.Test.YtlejfkjanllgbaaGreatDoorReadAll
import Derived.Deep.RegionLaw
import Derived.Deep.CutRange
import Derived.Deep.AppendLies
namespace Go.Proofs.YtlejfkjanllgbaaGreatDoor
open Go.RowKit
set_option linter.unusedVariables false
set_option maxRecDepth 20000

theorem acc_more (sz : Nat) (xs : List Int) (j : Nat) : ∀ d, ∃ t, accS sz xs (j + d) = accS sz xs j ++ t
  | 0 => ⟨⟨#[]⟩, by simp; apply ByteArray.ext; simp⟩
  | d + 1 => by
    obtain ⟨t, ht⟩ := acc_more sz xs j d
    exact ⟨t ++ rnS (pieceL sz xs (j + d)), by rw [show accS sz xs (j + (d + 1)) = accS sz xs (j + d) ++ rnS (pieceL sz xs (j + d)) from rfl, ht, ByteArray.append_assoc]⟩
theorem piece_rn {sz k : Nat} {xs : List Int} (hsz : sz = 16 ∨ sz = 64) (hl : xs.length = 64) (hk : k * sz + sz ≤ 64) (h : inB 5000 xs = true) : rnOk (pieceL sz xs k) = true := by
  unfold rnOk
  rw [piece_in hl hk h, show (pieceL sz xs k).length = sz from listF_length _ _]
  rcases hsz with rfl | rfl <;> rfl
theorem acc_signs {sz : Nat} {xs : List Int} (hsz : sz = 16 ∨ sz = 64) (hl : xs.length = 64) (h : inB 5000 xs = true) : ∀ k, k * sz ≤ 64 → Signs (nums (accS sz xs k))
  | 0, _ => fun x hx => by
    have : nums (⟨#[]⟩ : ByteArray) = [] := rfl
    rw [show accS sz xs 0 = ⟨#[]⟩ from rfl, this] at hx
    cases hx
  | k + 1, hk => by
    rw [Nat.succ_mul] at hk
    rw [show accS sz xs (k + 1) = accS sz xs k ++ rnS (pieceL sz xs k) from rfl, nums_append]
    exact (acc_signs hsz hl h k (by omega)).append (rnS_signs (piece_rn hsz hl hk h))
/-- The pieces that are put are read, one behind the other. -/
theorem acc_read {sz m : Nat} {xs : List Int} {s A Q : ByteArray} {F : Nat → Option (Int × Nat)} (hF : IsCnt s F) (hr : rowOkB s = true) (hsz : sz = 16 ∨ sz = 64) (hl : xs.length = 64) (hin : inB 5000 xs = true) (hm : m * sz ≤ 64) (hs : s = A ++ accS sz xs m ++ Q) :
    ∀ j, j ≤ m → ∃ f, rdM F sz A.size j = some (f, A.size + (accS sz xs j).size) ∧ ∀ i, i < sz * j → f i = xs.getD i 0
  | 0, _ => ⟨fun _ => 0, rfl, fun i hi => by omega⟩
  | j + 1, hj => by
    obtain ⟨f, h1, h2⟩ := acc_read hF hr hsz hl hin hm hs j (by omega)
    obtain ⟨t, ht⟩ := acc_more sz xs (j + 1) (m - (j + 1))
    rw [show j + 1 + (m - (j + 1)) = m by omega] at ht
    have hjm : j * sz + sz ≤ 64 := by
      have := Nat.mul_le_mul_right sz hj
      rw [Nat.succ_mul] at this
      omega
    have hy := piece_rn hsz hl hjm hin
    have hpl : (pieceL sz xs j).length = sz := listF_length _ _
    have hs2 : s = (A ++ accS sz xs j) ++ rnS (pieceL sz xs j) ++ (t ++ Q) := by
      rw [hs, ht, show accS sz xs (j + 1) = accS sz xs j ++ rnS (pieceL sz xs j) from rfl]
      simp only [ByteArray.append_assoc]
    obtain ⟨r1, r2, r3⟩ := read_put hF hy hs2 hr
    have hps : (A ++ accS sz xs j).size = A.size + (accS sz xs j).size := ByteArray.size_append
    have hle : (A ++ accS sz xs j).size ≤ s.size := by rw [hs2]; simp only [ByteArray.size_append]; omega
    have e2 : rdSt F s ((A ++ accS sz xs j).size : Int) ((pieceL sz xs j).length : Int) = readR F (pieceL sz xs j).length (A ++ accS sz xs j).size := by
      unfold rdSt
      rw [if_pos ⟨placeB_yes s _ (by omega) hr, by rw [hpl]; omega⟩]
      rfl
    rw [e2, hpl, hps] at r1 r2 r3
    cases hR : readR F sz (A.size + (accS sz xs j).size) with
    | none => rw [hR] at r3; cases r3
    | some r =>
      obtain ⟨g, kk, e'⟩ := r
      rw [hR] at r1 r2
      have r1' : listF sz g = pieceL sz xs j := r1
      have r2' : (e' : Int) = ((A.size + (accS sz xs j).size : Nat) : Int) + ((rnS (pieceL sz xs j)).size : Int) := r2
      refine ⟨fun i => if i < sz * j then f i else g (i - sz * j), ?_, ?_⟩
      · rw [rdM_some h1 hR]
        congr 2
        rw [show accS sz xs (j + 1) = accS sz xs j ++ rnS (pieceL sz xs j) from rfl, ByteArray.size_append]
        omega
      · intro i hi
        rw [Nat.mul_succ] at hi
        by_cases h0 : i < sz * j
        · simp only [h0, if_true]
          exact h2 i h0
        · simp only [h0, if_false]
          have hg : (listF sz g).getD (i - sz * j) 0 = (pieceL sz xs j).getD (i - sz * j) 0 := by rw [r1']
          unfold pieceL at hg
          rw [listF_get _ (by omega), listF_get _ (by omega)] at hg
          rw [hg]
          congr 1
          rw [Nat.mul_comm sz j]
          have := Nat.mul_comm sz j
          omega
theorem lr_read {q : Int} {g x : Bool} {xs : List Int} {A : ByteArray} {F : Nat → Option (Int × Nat)} (hF : IsCnt (A ++ lrS q g x xs ++ ⟨#[48]⟩) F) (hr : rowOkB (A ++ lrS q g x xs ++ ⟨#[48]⟩) = true) (hy : lrB q g x xs = true) :
    lsL (lrSt F (A ++ lrS q g x xs ++ ⟨#[48]⟩) (A.size : Int) q g x) = xs ∧ lsE (lrSt F (A ++ lrS q g x xs ++ ⟨#[48]⟩) (A.size : Int) q g x) = (A.size : Int) + ((lrS q g x xs).size : Int) ∧ lsY (lrSt F (A ++ lrS q g x xs ++ ⟨#[48]⟩) (A.size : Int) q g x) = true := by
  have hy' : parB q g x = true ∧ sqB 5000 xs = true := by unfold lrB at hy; simpa using hy
  obtain ⟨hl, hin⟩ := sqB_iff.1 hy'.2
  have hp : placeB (A ++ lrS q g x xs ++ ⟨#[48]⟩) (A.size : Int) = true := placeB_yes _ _ (by rw [ByteArray.size_append, ByteArray.size_append]; omega) hr
  rw [lrSt_yes hp hy'.1]
  have e0 : lrS q g x xs = accS (lrN g x) xs (lrC g x) := by
    rw [lrS_yes hy]
    unfold lrN lrC
    split <;> rfl
  rw [e0] at hF hr ⊢
  have hN : (lrN g x = 16 ∨ lrN g x = 64) ∧ lrC g x * lrN g x = 64 := by
    rcases lr_cases g x with ⟨h1, h2, _⟩ | ⟨h1, h2, _⟩
    · rw [h1, h2]; exact ⟨.inl rfl, rfl⟩
    · rw [h1, h2]; exact ⟨.inr rfl, rfl⟩
  obtain ⟨f, h1, h2⟩ := acc_read (m := lrC g x) hF hr hN.1 hl hin (by rw [hN.2]; omega) rfl (lrC g x) (Nat.le_refl _)
  rw [h1]
  refine ⟨?_, by show ((A.size + _ : Nat) : Int) = _; omega, rfl⟩
  show listF 64 f = xs
  rw [Nat.mul_comm, hN.2] at h2
  rw [listF_congr h2, ← hl]
  exact listF_self xs

set_option maxHeartbeats 6400000 in
theorem fnLevelRows_walk (a : Option Addr) (len cap : Nat) (w : World) (tsc : TabC w 2 scL) (tsh : TabC w 1 shL) (tkd : TabC w 0 kdL) (hcode : 1048576 < (len : Int) ∨ CodeIn w a len cap) :
    Calls Tryz.prog 3 #[.slice a len cap] w fun e w' => e = .returned (.bool true) ∧ Below w.heap.size w w' := by
  obtain ⟨i0, hi0, hz0, hz1, hz2⟩ := info_parts infoI
  rcases hcode with hbig | hcode
  · have CB : Hid (Calls Tryz.prog 5 #[.slice a len cap] w fun e w' => e = .returned (.bool true) ∧ w' = w) := big_yes a len cap w hbig
    clear tsc tsh tkd hbig
    go_enter Tryz.func3, Tryz.ntmps3
    go_wp2_with (go_at_call 5; refine CB.out.mono ?_; rintro e w2 ⟨rfl, hw⟩; subst w2)
    go_ret
    exact ⟨rfl, Below.refl _ _⟩
  have HT : Hid (∀ w', Below w.heap.size w w' → Tabs w') := fun w' hb => (show Tabs w from ⟨tsc, tsh, tkd⟩).below hb
  clear tsc tsh tkd
  obtain ⟨hlen, hnil, hrow⟩ := hcode
  obtain ⟨zs, hzl, hcv⟩ := codeV_of hrow
  have CD : Hid (Calls Tryz.prog 6 #[.slice a len cap, .int .i64 64] w fun e w' => ∃ (g : Nat) (l : List Int), e = .returned (.slice (some ⟨g, 0, none⟩) 64 64) ∧ (l.length = 64 ∧ inB 5000 l = true) ∧ w'.ownsRow w.heap.size 3 1 (.slice (some ⟨g, 0, none⟩) 64 64) 64 (l.map (Value.int .i64)) ∧ Below w.heap.size w w') := by
    refine (drawLevels_any a len cap w.heap.size 64 w hrow (Nat.le_refl _) (by omega) (by omega)).mono ?_
    rintro e w' ⟨g, f, rfl, hf, ho, hb⟩
    refine ⟨g, listF 64 f, rfl, ⟨listF_length _ _, inB_iff.2 fun i hi => ?_⟩, ho, hb⟩
    rw [listF_length] at hi
    rw [listF_get _ hi]
    exact hf i
  have CC : Hid (∀ w', Below w.heap.size w w' → Calls Tryz.prog 7 #[.slice a len cap] w' fun e w'' => (∃ k q g x, e = .returned (conV k q g x) ∧ parB q g x = true) ∧ Below w'.heap.size w' w'') := fun w' hb => by
    have := drawCond_any a cap w.heap.size zs w' (hcv.below hb) hb.size
    rwa [hzl] at this
  have CA : Hid (∀ w', Below w.heap.size w w' → Calls Tryz.prog 8 #[.slice a len cap] w' fun e w'' => (∃ A : ByteArray, e = .returned (.string A) ∧ A.size ≤ 60 ∧ Signs (nums A)) ∧ Below w'.heap.size w' w'') := fun w' hb => by
    refine (drawRow_any a len cap w.heap.size w' (hrow.below hb) hb.size).mono ?_
    rintro e w'' ⟨la, rfl, hla, hsa, hc⟩
    have hs : Signs la := fun x hx => by have := hsa x hx; omega
    exact ⟨⟨_, rfl, by rw [sizeS]; exact hla, by rw [nums_of _ hs.bd]; exact hs⟩, hc⟩
  clear hcv hrow hzl hnil
  go_enter Tryz.func3, Tryz.ntmps3
  go_wp2_with fail
  refine (big_any a len cap w hlen).mono ?_
  rintro e w0 ⟨rfl, hw⟩
  subst w0
  go_wp2_with fail
  refine CD.out.mono ?_
  rintro e w1 ⟨sb1, xs, rfl, ⟨hxl, hxin⟩, hown, hb1⟩
  have ix1 : Ints w1 (some ⟨sb1, 0, none⟩) xs := owned_at (xs := xs) (by rw [hxl]; exact hown)
  clear CD hown hlen
  go_wp2_with fail
  refine (CC.out w1 hb1).mono ?_
  rintro e w2 ⟨⟨k, q, g, x, rfl, hp⟩, hc⟩
  have hb2 := hb1.trans (hc.mono hb1.size)
  have ix2 := ix1.below hc (Nat.le_refl _)
  clear hc hb1 ix1 CC
  have hsq : sqB 5000 xs = true := sqB_iff.2 ⟨hxl, hxin⟩
  have hlr : lrB q g x xs = true := by unfold lrB; rw [hp, hsq]; rfl
  have hlv : lvB 5000 q g x xs = true := by unfold lvB; rw [hp, hsq]; rfl
  have C1 : Hid (∀ (p : Option Addr) (c : Nat) (w' : World), Below w.heap.size w w' → Ints w' p xs → 64 ≤ c → Calls Tryz.prog 9 #[.slice p 64 c, conV k q g x] w' fun e w'' => e = .returned (.tuple #[.string (lrS q g x xs), .bool true]) ∧ Below w'.heap.size w' w'') := fun p c w' hb hi hc => by
    have := implLevelsRow p c xs k q g x w' hi (by rw [hxl]; decide) (by omega)
    rwa [hxl, hlr] at this
  have C2 : Hid (∀ (A : ByteArray) (w' : World), rowOkB (A ++ lrS q g x xs ++ ⟨#[48]⟩) = true → Calls Tryz.prog 10 #[.string (A ++ lrS q g x xs ++ ⟨#[48]⟩), .int .i64 (A.size : Int), conV k q g x] w' fun e w'' => (∃ v, e = .returned (.tuple #[v, .int .i64 ((A.size : Int) + ((lrS q g x xs).size : Int)), .bool true]) ∧ w''.ownsRow w'.heap.size 3 1 v 64 (xs.map (Value.int .i64))) ∧ Below w'.heap.size w' w'') := fun A w' hr => by
    obtain ⟨F, hF⟩ := isCnt_exists (A ++ lrS q g x xs ++ ⟨#[48]⟩)
    obtain ⟨r1, r2, r3⟩ := lr_read hF hr hlr
    have := implReadLevels hF (A.size : Int) k q g x w' (by
      have := (rowOkB_true _ hr).1
      unfold maxLen
      omega)
    rwa [r1, r2, r3, hxl] at this
  have C3 : Hid (∀ (p : Option Addr) (c : Nat) (w' : World), Below w.heap.size w w' → Ints w' p xs → 64 ≤ c → Calls Tryz.prog 11 #[.slice p 64 c, conV k q g x] w' fun e w'' => (∃ p' c', e = .returned (.tuple #[.slice p' 64 c', .bool true])) ∧ Below w'.heap.size w' w'') := fun p c w' hb hi hc => by
    have := implLevelsBack p c xs k q g x w' hi (by rw [hxl]; decide) (by omega) (HT.out w' hb)
    rw [hlv, hxl, show (lbkL q g x xs).length = 64 by unfold lbkL; rw [if_pos hlv, listF_length]] at this
    refine this.mono ?_
    rintro e w'' ⟨⟨v, rfl, ho⟩, hc⟩
    obtain ⟨gz, cz, rfl, _, _⟩ := ho.form (by omega)
    exact ⟨⟨_, _, rfl⟩, hc⟩
  have CM : Hid (∀ (p p' : Option Addr) (c c' : Nat) (w' : World), Ints w' p xs → Ints w' p' xs → Calls Tryz.prog 12 #[.slice p 64 c, .slice p' 64 c'] w' fun e w'' => e = .returned (.bool true) ∧ Below w'.heap.size w' w'') := fun p p' c c' w' h1 h2 => by
    have := sameInts_any p p' c c' xs w' h1 h2 (by rw [hxl]; decide)
    rwa [hxl] at this
  have CO : Hid (∀ w', Calls Tryz.prog 13 #[conV k q g x] w' fun e w'' => e = .returned (.bool true) ∧ Below w'.heap.size w' w'') := fun w' => by
    have := implCondOk k q g x w'
    rwa [hp] at this
  have HSg : Hid (Signs (nums (lrS q g x xs)) ∧ (lrS q g x xs).size ≤ 20800) := ⟨by
    rw [lrS_yes hlr]
    split
    · exact acc_signs (.inr rfl) hxl hxin 1 (by omega)
    · exact acc_signs (.inl rfl) hxl hxin 4 (by omega), lrS_le q g x xs⟩
  have LS : Hid (xs.length = 64) := hxl
  have LN1 : Hid ((xs.map (Value.int .i64)).length = 64 * 1) := by show _ = _; rw [List.length_map, hxl]
  have LN2 : Hid ((xs.map (Value.int .i64)).length = 64 * 1) := LN1
  generalize lrS q g x xs = S at *
  clear hxl hxin HT hp hsq hlr hlv
  have bC := Blk.new w2 #[.bool k, .int .i64 q, .bool g, .bool x] 27
  have hcC := (Below.refl w2.heap.size w2).alloc (Nat.le_refl _) (.cells #[.bool k, .int .i64 q, .bool g, .bool x] 27)
  go_wp2_with fail
  generalize World.alloc w2 (.cells #[.bool k, .int .i64 q, .bool g, .bool x] 27) = W0 at *
  generalize hgc : w2.heap.size = gC at *
  have hgw : w.heap.size ≤ gC := by rw [← hgc]; exact hb2.size
  refine (CA.out W0 (hb2.trans (hcC.mono hgw))).mono ?_
  rintro e W1 ⟨⟨A, rfl, hA1, hA2⟩, hc⟩
  have bC1 := bC.below hc bC.lt
  have hc1 : Below gC w2 W1 := hcC.trans (hc.mono (Nat.le_of_lt bC.lt))
  clear hc bC hcC CA
  have hRow : rowOkB (A ++ S ++ ⟨#[48]⟩) = true := by
    refine rowOkB_of _ ?_ ?_
    · rw [ByteArray.size_append, ByteArray.size_append]
      have h2 := HSg.out.2
      have h3 : (⟨#[48]⟩ : ByteArray).size = 1 := rfl
      omega
    · rw [nums_append, nums_append]
      exact (hA2.append HSg.out.1).append (fun x hx => by
        have : nums (⟨#[48]⟩ : ByteArray) = [48] := rfl
        rw [this] at hx
        simp at hx
        exact .inl hx)
  have s52 : S.size ≤ 20800 := HSg.out.2
  have C4 : Hid (∀ w', _) := fun w' => C2.out A w' hRow
  clear hRow HSg hA2 C2
  have HK1 : Hid (∀ w', Below W1.heap.size W1 w' → (w'.cell? ⟨gC, 0, none⟩ = some (.bool k) ∧ w'.cell? ⟨gC, 1, none⟩ = some (.int .i64 q) ∧ w'.cell? ⟨gC, 2, none⟩ = some (.bool g) ∧ w'.cell? ⟨gC, 3, none⟩ = some (.bool x)) ∧ Ints w' (some ⟨sb1, 0, none⟩) xs ∧ Below w.heap.size w w') := fun w' h => by
    have h2 : Below gC w2 w' := hc1.trans (h.mono (Nat.le_of_lt bC1.lt))
    exact ⟨(bC1.below h bC1.lt).four.1, ix2.below h2 (by omega), hb2.trans (h2.mono hgw)⟩
  -- LevelsRow
  have lit1 : ((W1.alloc (.cells #[] 3)).drew).ownsRow W1.heap.size 3 1 (.slice (some ⟨W1.heap.size, 0, none⟩) 0 0) 0 (([] : List Int).map (Value.int .i64)) := World.ownsRow_lit W1.drew #[] 0 (Nat.le_refl _) (by unfold maxLen; omega) rfl
  have hbA1 : Below W1.heap.size W1 (W1.alloc (.cells #[] 3)) := (Below.refl W1.heap.size W1).alloc (Nat.le_refl _) _
  have hbL1 : Below W1.heap.size W1 ((W1.alloc (.cells #[] 3)).drew) := hbA1.drew
  obtain ⟨⟨x0, x1, x2, x3⟩, _, _⟩ := HK1.out W1 (Below.refl _ _)
  obtain ⟨⟨z0, z1, z2, z3⟩, _, _⟩ := HK1.out _ hbA1
  obtain ⟨_, iz, _⟩ := HK1.out _ hbL1
  have NW1 := news_of_list iz
  clear iz
  go_wp2_with fail
  go_cut [6, 7] from 21 to 28 (fun u v wc => u = .string S ∧ v = .bool true ∧ Below W1.heap.size W1 wc)
  case first =>
    go_region_law (first
      | (refine step_append_lies _ (by rfl) _ _ _ (by rfl) W1.heap.size 3 i0 (.int .i64 0) 1 8 Tryz.underlying24 hi0 hz0 hz1 hz2 rfl (by omega) (.slice (some ⟨W1.heap.size, 0, none⟩) 0 0) 0 _ (by rfl) lit1 ⟨sb1, 0, none⟩ 64 64 (xs.map (Value.int .i64)) (by rfl) LN1.out NW1 (ones_of_list _) (by omega) (by unfold maxLen; omega) (by omega) (by simp) (W1.heap.size + 1) (by simp) ?_; intro gg cp w5 hown5 hgrow hat hlt5; have hb5 : Below W1.heap.size W1 w5 := hbL1.grown hgrow (by simp) (fun k hk => (lit1.lt k hk).1); have J5 : Ints w5 (some ⟨gg, 0, none⟩) xs := owned_at (xs := xs) (by rw [LS.out]; exact hown5); have hcp := owned_cap hown5; obtain ⟨⟨y0, y1, y2, y3⟩, _, hbw5⟩ := HK1.out w5 hb5)
      | (go_simp; go_at_call 9; refine (C1.out _ _ w5 hbw5 J5 (by omega)).mono ?_; rintro e w6 ⟨rfl, hr⟩; have hb6 := hb5.trans (hr.mono hb5.size)))
    all_goals
      go_wp2_with fail
      go_meet
      exact ⟨rfl, rfl, hb6⟩
  case rest =>
  obtain ⟨rfl, rfl, hbc1⟩ := hcut
  clear lit1 hbA1 hbL1 NW1 x0 x1 x2 x3 z0 z1 z2 z3
  generalize wc = W2 at *
  have bC2 := bC1.below hbc1 bC1.lt
  have hc2 : Below gC w2 W2 := hc1.trans (hbc1.mono (Nat.le_of_lt bC1.lt))
  clear hbc1 bC1 hc1 HK1 C1
  obtain ⟨x0, x1, x2, x3⟩ := bC2.four.1
  have c1 : ¬ 9223372036854775807 < A.size + S.size := by omega
  have c2 : ¬ 9223372036854775807 < A.size + S.size + 1 := by omega
  have c3 : ¬ 9223372036854775807 < (A ++ S).size + (⟨#[48]⟩ : ByteArray).size := by
    rw [ByteArray.size_append]
    have h3 : (⟨#[48]⟩ : ByteArray).size = 1 := rfl
    omega
  go_wp2_with fail
  refine (C4.out W2).mono ?_
  rintro e W3 ⟨⟨v, rfl, ho⟩, hc⟩
  obtain ⟨gy, cy, rfl, _, _⟩ := ho.form (by omega)
  have hcy := owned_cap ho
  have iy3 : Ints W3 (some ⟨gy, 0, none⟩) xs := owned_at (xs := xs) (by rw [LS.out]; exact ho)
  have bC3 := bC2.below hc bC2.lt
  have hc3 : Below gC w2 W3 := hc2.trans (hc.mono (Nat.le_of_lt bC2.lt))
  clear ho hc bC2 hc2 C4 x0 x1 x2 x3 c1 c2 c3
  have HK2 : Hid (∀ w', Below W3.heap.size W3 w' → (w'.cell? ⟨gC, 0, none⟩ = some (.bool k) ∧ w'.cell? ⟨gC, 1, none⟩ = some (.int .i64 q) ∧ w'.cell? ⟨gC, 2, none⟩ = some (.bool g) ∧ w'.cell? ⟨gC, 3, none⟩ = some (.bool x)) ∧ Ints w' (some ⟨gy, 0, none⟩) xs ∧ Below w.heap.size w w') := fun w' h => by
    have h2 : Below gC w2 w' := hc3.trans (h.mono (Nat.le_of_lt bC3.lt))
    exact ⟨(bC3.below h bC3.lt).four.1, iy3.below h (Nat.le_refl _), hb2.trans (h2.mono hgw)⟩
  -- LevelsBack
  have lit2 : ((W3.alloc (.cells #[] 3)).drew).ownsRow W3.heap.size 3 1 (.slice (some ⟨W3.heap.size, 0, none⟩) 0 0) 0 (([] : List Int).map (Value.int .i64)) := World.ownsRow_lit W3.drew #[] 0 (Nat.le_refl _) (by unfold maxLen; omega) rfl
  have hbA2 : Below W3.heap.size W3 (W3.alloc (.cells #[] 3)) := (Below.refl W3.heap.size W3).alloc (Nat.le_refl _) _
  have hbL2 : Below W3.heap.size W3 ((W3.alloc (.cells #[] 3)).drew) := hbA2.drew
  obtain ⟨⟨x0, x1, x2, x3⟩, _, _⟩ := HK2.out W3 (Below.refl _ _)
  obtain ⟨⟨z0, z1, z2, z3⟩, _, _⟩ := HK2.out _ hbA2
  obtain ⟨_, iz, _⟩ := HK2.out _ hbL2
  have NW2 := news_of_list iz
  clear iz
  go_wp2_with fail
  go_cut [11, 12] from 41 to 48 (fun u v wc => (∃ p c, u = .slice p 64 c) ∧ v = .bool true ∧ Below W3.heap.size W3 wc)
  case first =>
    go_region_law (first
      | (refine step_append_lies _ (by rfl) _ _ _ (by rfl) W3.heap.size 3 i0 (.int .i64 0) 1 8 Tryz.underlying24 hi0 hz0 hz1 hz2 rfl (by omega) (.slice (some ⟨W3.heap.size, 0, none⟩) 0 0) 0 _ (by rfl) lit2 ⟨gy, 0, none⟩ 64 cy (xs.map (Value.int .i64)) (by rfl) LN2.out NW2 (ones_of_list _) (by omega) (by unfold maxLen; omega) (by omega) (by simp) (W3.heap.size + 1) (by simp) ?_; intro gg cp w5 hown5 hgrow hat hlt5; have hb5 : Below W3.heap.size W3 w5 := hbL2.grown hgrow (by simp) (fun k hk => (lit2.lt k hk).1); have J5 : Ints w5 (some ⟨gg, 0, none⟩) xs := owned_at (xs := xs) (by rw [LS.out]; exact hown5); have hcp := owned_cap hown5; obtain ⟨⟨y0, y1, y2, y3⟩, _, hbw5⟩ := HK2.out w5 hb5)
      | (go_simp; go_at_call 11; refine (C3.out _ _ w5 hbw5 J5 (by omega)).mono ?_; rintro e w6 ⟨⟨p6, c6, rfl⟩, hr⟩; have hb6 := hb5.trans (hr.mono hb5.size)))
    all_goals
      go_wp2_with fail
      go_meet
      exact ⟨⟨_, _, rfl⟩, rfl, hb6⟩
  case rest =>
  obtain ⟨⟨pz, cz, rfl⟩, rfl, hbc2⟩ := hcut
  clear lit2 hbA2 hbL2 NW2 x0 x1 x2 x3 z0 z1 z2 z3
  generalize wc = W4 at *
  have bC4 := bC3.below hbc2 bC3.lt
  have hc4 : Below gC w2 W4 := hc3.trans (hbc2.mono (Nat.le_of_lt bC3.lt))
  have iy4 := iy3.below hbc2 (Nat.le_refl _)
  have ix4 := ix2.below hc4 (by omega)
  clear hbc2 bC3 hc3 HK2 C3 iy3 ix2
  go_wp2_with fail
  refine (CM.out _ _ _ _ W4 iy4 ix4).mono ?_
  rintro e W5 ⟨rfl, hc⟩
  have bC5 := bC4.below hc bC4.lt
  have hc5 : Below gC w2 W5 := hc4.trans (hc.mono (Nat.le_of_lt bC4.lt))
  clear hc bC4 hc4 iy4 ix4 CM
  obtain ⟨x0, x1, x2, x3⟩ := bC5.four.1
  have hsum : IntKind.i64.wrap ((A.size : Int) + (S.size : Int)) = (A.size : Int) + (S.size : Int) := IntWalk.i64_in _ ⟨by omega, by omega⟩
  go_wp2_with fail
  refine (CO.out W5).mono ?_
  rintro e W6 ⟨rfl, hc⟩
  have hc6 : Below gC w2 W6 := hc5.trans (hc.mono (Nat.le_of_lt bC5.lt))
  go_wp2
  go_ret
  exact ⟨rfl, hb2.trans (hc6.mono hgw)⟩
end Go.Proofs.YtlejfkjanllgbaaGreatDoor
