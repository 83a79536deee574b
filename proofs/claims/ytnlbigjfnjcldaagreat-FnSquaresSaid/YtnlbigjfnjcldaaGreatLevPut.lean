/-
  What is put of levels is read: the pieces one behind the other.
-/
import Derived.Test.YtnlbigjfnjcldaaGreatLevRows
import Derived.Test.YtnlbigjfnjcldaaGreatLeftReadAll
import Derived.Test.YtnlbigjfnjcldaaGreatReadAll
namespace Go.Proofs.YtnlbigjfnjcldaaGreat
open Go.RowKit
set_option linter.unusedVariables false
set_option maxRecDepth 20000

theorem acc_more (sz : Nat) (xs : List Int) (j : Nat) : ∀ d, ∃ t, accS sz xs (j + d) = accS sz xs j ++ t
  | 0 => ⟨⟨#[]⟩, by simp; apply ByteArray.ext; simp⟩
  | d + 1 => by
    obtain ⟨t, ht⟩ := acc_more sz xs j d
    exact ⟨t ++ rnS (pieceL sz xs (j + d)), by rw [show accS sz xs (j + (d + 1)) = accS sz xs (j + d) ++ rnS (pieceL sz xs (j + d)) from rfl, ht, ByteArray.append_assoc]⟩
theorem piece_rn {sz k : Nat} {xs : List Int} (hsz : sz = 16 ∨ sz = 64) (hl : xs.length = 64) (hk : k * sz + sz ≤ 64) (h : inB 5000 xs = true) : rnOk (pieceL sz xs k) = true := by
  unfold rnOk
  rw [piece_in hl hk h, show (pieceL sz xs k).length = sz from listF_length _ _]
  rcases hsz with rfl | rfl <;> rfl
theorem acc_signs {sz : Nat} {xs : List Int} (hsz : sz = 16 ∨ sz = 64) (hl : xs.length = 64) (h : inB 5000 xs = true) : ∀ k, k * sz ≤ 64 → Signs (nums (accS sz xs k))
  | 0, _ => fun x hx => by
    have : nums (⟨#[]⟩ : ByteArray) = [] := rfl
    rw [show accS sz xs 0 = ⟨#[]⟩ from rfl, this] at hx
    cases hx
  | k + 1, hk => by
    rw [Nat.succ_mul] at hk
    rw [show accS sz xs (k + 1) = accS sz xs k ++ rnS (pieceL sz xs k) from rfl, nums_append]
    exact (acc_signs hsz hl h k (by omega)).append (rnS_signs (piece_rn hsz hl hk h))
/-- The pieces that are put are read, one behind the other. -/
theorem acc_read {sz m : Nat} {xs : List Int} {s A Q : ByteArray} {F : Nat → Option (Int × Nat)} (hF : IsCnt s F) (hr : rowOkB s = true) (hsz : sz = 16 ∨ sz = 64) (hl : xs.length = 64) (hin : inB 5000 xs = true) (hm : m * sz ≤ 64) (hs : s = A ++ accS sz xs m ++ Q) :
    ∀ j, j ≤ m → ∃ f, rdM F sz A.size j = some (f, A.size + (accS sz xs j).size) ∧ ∀ i, i < sz * j → f i = xs.getD i 0
  | 0, _ => ⟨fun _ => 0, rfl, fun i hi => by omega⟩
  | j + 1, hj => by
    obtain ⟨f, h1, h2⟩ := acc_read hF hr hsz hl hin hm hs j (by omega)
    obtain ⟨t, ht⟩ := acc_more sz xs (j + 1) (m - (j + 1))
    rw [show j + 1 + (m - (j + 1)) = m by omega] at ht
    have hjm : j * sz + sz ≤ 64 := by
      have := Nat.mul_le_mul_right sz hj
      rw [Nat.succ_mul] at this
      omega
    have hy := piece_rn hsz hl hjm hin
    have hpl : (pieceL sz xs j).length = sz := listF_length _ _
    have hs2 : s = (A ++ accS sz xs j) ++ rnS (pieceL sz xs j) ++ (t ++ Q) := by
      rw [hs, ht, show accS sz xs (j + 1) = accS sz xs j ++ rnS (pieceL sz xs j) from rfl]
      simp only [ByteArray.append_assoc]
    obtain ⟨r1, r2, r3⟩ := read_put hF hy hs2 hr
    have hps : (A ++ accS sz xs j).size = A.size + (accS sz xs j).size := ByteArray.size_append
    have hle : (A ++ accS sz xs j).size ≤ s.size := by rw [hs2]; simp only [ByteArray.size_append]; omega
    have e2 : rdSt F s ((A ++ accS sz xs j).size : Int) ((pieceL sz xs j).length : Int) = readR F (pieceL sz xs j).length (A ++ accS sz xs j).size := by
      unfold rdSt
      rw [if_pos ⟨placeB_yes s _ (by omega) hr, by rw [hpl]; omega⟩]
      rfl
    rw [e2, hpl, hps] at r1 r2 r3
    cases hR : readR F sz (A.size + (accS sz xs j).size) with
    | none => rw [hR] at r3; cases r3
    | some r =>
      obtain ⟨g, kk, e'⟩ := r
      rw [hR] at r1 r2
      have r1' : listF sz g = pieceL sz xs j := r1
      have r2' : (e' : Int) = ((A.size + (accS sz xs j).size : Nat) : Int) + ((rnS (pieceL sz xs j)).size : Int) := r2
      refine ⟨fun i => if i < sz * j then f i else g (i - sz * j), ?_, ?_⟩
      · rw [rdM_some h1 hR]
        congr 2
        rw [show accS sz xs (j + 1) = accS sz xs j ++ rnS (pieceL sz xs j) from rfl, ByteArray.size_append]
        omega
      · intro i hi
        rw [Nat.mul_succ] at hi
        by_cases h0 : i < sz * j
        · simp only [h0, if_true]
          exact h2 i h0
        · simp only [h0, if_false]
          have hg : (listF sz g).getD (i - sz * j) 0 = (pieceL sz xs j).getD (i - sz * j) 0 := by rw [r1']
          unfold pieceL at hg
          rw [listF_get _ (by omega), listF_get _ (by omega)] at hg
          rw [hg]
          congr 1
          rw [Nat.mul_comm sz j]
          have := Nat.mul_comm sz j
          omega
theorem lr_read {q : Int} {g x : Bool} {xs : List Int} {A : ByteArray} {F : Nat → Option (Int × Nat)} (hF : IsCnt (A ++ lrS q g x xs ++ ⟨#[48]⟩) F) (hr : rowOkB (A ++ lrS q g x xs ++ ⟨#[48]⟩) = true) (hy : lrB q g x xs = true) :
    lsL (lrSt F (A ++ lrS q g x xs ++ ⟨#[48]⟩) (A.size : Int) q g x) = xs ∧ lsE (lrSt F (A ++ lrS q g x xs ++ ⟨#[48]⟩) (A.size : Int) q g x) = (A.size : Int) + ((lrS q g x xs).size : Int) ∧ lsY (lrSt F (A ++ lrS q g x xs ++ ⟨#[48]⟩) (A.size : Int) q g x) = true := by
  have hy' : parB q g x = true ∧ sqB 5000 xs = true := by unfold lrB at hy; simpa using hy
  obtain ⟨hl, hin⟩ := sqB_iff.1 hy'.2
  have hp : placeB (A ++ lrS q g x xs ++ ⟨#[48]⟩) (A.size : Int) = true := placeB_yes _ _ (by rw [ByteArray.size_append, ByteArray.size_append]; omega) hr
  rw [lrSt_yes hp hy'.1]
  have e0 : lrS q g x xs = accS (lrN g x) xs (lrC g x) := by
    rw [lrS_yes hy]
    unfold lrN lrC
    split <;> rfl
  rw [e0] at hF hr ⊢
  have hN : (lrN g x = 16 ∨ lrN g x = 64) ∧ lrC g x * lrN g x = 64 := by
    rcases lr_cases g x with ⟨h1, h2, _⟩ | ⟨h1, h2, _⟩
    · rw [h1, h2]; exact ⟨.inl rfl, rfl⟩
    · rw [h1, h2]; exact ⟨.inr rfl, rfl⟩
  obtain ⟨f, h1, h2⟩ := acc_read (m := lrC g x) hF hr hN.1 hl hin (by rw [hN.2]; omega) rfl (lrC g x) (Nat.le_refl _)
  rw [h1]
  refine ⟨?_, by show ((A.size + _ : Nat) : Int) = _; omega, rfl⟩
  show listF 64 f = xs
  rw [Nat.mul_comm, hN.2] at h2
  rw [listF_congr h2, ← hl]
  exact listF_self xs
/-- What is read of levels is within the limit. -/
theorem iterR_in {s : ByteArray} {F : Nat → Option (Int × Nat)} (hF : IsCnt s F) (hr : rowOkB s = true) {n p : Nat} : ∀ j g k q, iterR F n p j = some (g, k, q) → ∀ i, -5000 ≤ g i ∧ g i ≤ 5000
  | 0, g, k, q, h => fun i => by cases h; exact ⟨by show (-5000 : Int) ≤ 0; omega, by show (0 : Int) ≤ 5000; omega⟩
  | j + 1, g, k, q, h => fun i => by
    change stepR F n (iterR F n p j) = some (g, k, q) at h
    cases h1 : iterR F n p j with
    | none => rw [h1] at h; cases h
    | some r =>
      obtain ⟨g1, k1, q1⟩ := r
      rw [h1] at h
      cases h2 : oneR F q1 with
      | none => rw [step_fault h2] at h; cases h
      | some o =>
        obtain ⟨z, x, e⟩ := o
        by_cases h3 : n ≤ k1 + z
        · rw [step_far h2 h3] at h; cases h
        · rw [step_on h2 h3] at h
          cases h
          have hx := (oneR_end hF hr h2).2.2
          unfold levB at hx
          simp only [Bool.and_eq_true, decide_eq_true_eq] at hx
          have := iterR_in hF hr j g1 k1 q1 h1 i
          unfold updF
          split
          · exact hx.2
          · exact this
theorem readR_in {s : ByteArray} {F : Nat → Option (Int × Nat)} (hF : IsCnt s F) (hr : rowOkB s = true) {n p k e : Nat} {g : Nat → Int} (h : readR F n p = some (g, k, e)) : ∀ i, -5000 ≤ g i ∧ g i ≤ 5000 := by
  cases h0 : F p with
  | none => rw [readR_none h0] at h; cases h
  | some r =>
    obtain ⟨m, q⟩ := r
    rw [readR_some h0] at h
    exact iterR_in hF hr _ _ _ _ h
theorem rdM_in {s : ByteArray} {F : Nat → Option (Int × Nat)} (hF : IsCnt s F) (hr : rowOkB s = true) {n p : Nat} : ∀ m f e, rdM F n p m = some (f, e) → ∀ i, -5000 ≤ f i ∧ f i ≤ 5000
  | 0, f, e, h => fun i => by cases h; exact ⟨by show (-5000 : Int) ≤ 0; omega, by show (0 : Int) ≤ 5000; omega⟩
  | m + 1, f, e, h => fun i => by
    cases h1 : rdM F n p m with
    | none =>
      have h9 : rdM F n p (m + 1) = none := by simp only [rdM, h1]
      rw [h9] at h
      cases h
    | some r =>
      obtain ⟨f1, e1⟩ := r
      cases h2 : readR F n e1 with
      | none => rw [rdM_none h1 h2] at h; cases h
      | some r2 =>
        obtain ⟨g, k, e2⟩ := r2
        rw [rdM_some h1 h2] at h
        cases h
        have a := rdM_in hF hr m f1 e1 h1 i
        have b := readR_in hF hr h2 (i - n * m)
        dsimp only
        split
        · exact a
        · exact b
theorem rdM_sq {s : ByteArray} {F : Nat → Option (Int × Nat)} (hF : IsCnt s F) (hr : rowOkB s = true) {n p m e : Nat} {f : Nat → Int} (h : rdM F n p m = some (f, e)) : sqB 5000 (listF 64 f) = true :=
  sqB_iff.2 ⟨listF_length _ _, inB_iff.2 fun i hi => by
    rw [listF_length] at hi
    rw [listF_get _ hi]
    exact rdM_in hF hr m f e h i⟩
end Go.Proofs.YtnlbigjfnjcldaaGreat
