/-
  Squares as they are sent: its row, what a reading finds, and that what is put is read.
-/
import Derived.Test.YtnlbigjfnjcldaaGreatLevPut
import Derived.Test.YtnlbigjfnjcldaaGreatIntAll
namespace Go.Proofs.YtnlbigjfnjcldaaGreat
open Go.RowKit
set_option linter.unusedVariables false
set_option maxRecDepth 20000

/-- The row of 64 levels. -/
def lvS (g x : Bool) (xs : List Int) : ByteArray := accS (lrN g x) xs (lrC g x)
/-- The row of a square. -/
def sqS (key g x : Bool) (kd md dx dy : Int) (xs : List Int) : ByteArray :=
  (if key = true then ⟨#[]⟩ else ueS kd) ++ (if kd = 1 then ueS (seF dx) ++ ueS (seF dy) ++ lvS g x xs else if kd = 2 then ueS md ++ lvS g x xs else ⟨#[]⟩)
/-- What a reading finds at a place. -/
def sqR (F : Nat → Option (Int × Nat)) (key g x : Bool) (p : Nat) : Option ((Int × Int × Int × Int × List Int) × Nat) :=
  match (if key = true then some ((2 : Int), p) else F p) with
  | none => none
  | some (kd, p1) =>
    if kd = 0 then some ((0, 0, 0, 0, []), p1)
    else if kd = 1 then
      match F p1 with
      | none => none
      | some (a, p2) => match F p2 with
        | none => none
        | some (b, p3) => match rdM F (lrN g x) p3 (lrC g x) with
          | none => none
          | some (f, e) => if sqOkB 1 0 (seO a) (seO b) (listF 64 f) = true then some ((1, 0, seO a, seO b, listF 64 f), e) else none
    else if kd = 2 then
      match F p1 with
      | none => none
      | some (md, p2) => match rdM F (lrN g x) p2 (lrC g x) with
        | none => none
        | some (f, e) => if sqOkB 2 md 0 0 (listF 64 f) = true then some ((2, md, 0, 0, listF 64 f), e) else none
    else none
theorem lv_read {g x : Bool} {xs : List Int} {s P Q : ByteArray} {F : Nat → Option (Int × Nat)} (hF : IsCnt s F) (hr : rowOkB s = true) (hy : sqB 5000 xs = true) (hs : s = P ++ lvS g x xs ++ Q) :
    ∃ f, rdM F (lrN g x) P.size (lrC g x) = some (f, P.size + (lvS g x xs).size) ∧ listF 64 f = xs := by
  obtain ⟨hl, hin⟩ := sqB_iff.1 hy
  have hN : (lrN g x = 16 ∨ lrN g x = 64) ∧ lrC g x * lrN g x = 64 := by
    rcases lr_cases g x with ⟨h1, h2, _⟩ | ⟨h1, h2, _⟩
    · rw [h1, h2]; exact ⟨.inl rfl, rfl⟩
    · rw [h1, h2]; exact ⟨.inr rfl, rfl⟩
  obtain ⟨f, h1, h2⟩ := acc_read (m := lrC g x) hF hr hN.1 hl hin (by rw [hN.2]; omega) hs (lrC g x) (Nat.le_refl _)
  refine ⟨f, h1, ?_⟩
  rw [Nat.mul_comm, hN.2] at h2
  rw [listF_congr h2, ← hl]
  exact listF_self xs
theorem ue_put {s P Q : ByteArray} {F : Nat → Option (Int × Nat)} (hF : IsCnt s F) {n : Int} (h0 : 0 ≤ n) (h1 : n ≤ 1000000) (hs : s = P ++ ueS n ++ Q) : F P.size = some (n, (P ++ ueS n).size) := by
  rw [cnt_put hF h0 h1 hs, ByteArray.size_append, show (ueS n).size = (ueL n).length from sizeS _]
theorem seF_16 {n : Int} (h : -16 ≤ n ∧ n ≤ 16) : 0 ≤ seF n ∧ seF n ≤ 32 := by
  unfold seF
  split <;> omega
/-- What is put of a right square is read. -/
theorem sq_put {key g x : Bool} {kd md dx dy : Int} {xs : List Int} {s A Q : ByteArray} {F : Nat → Option (Int × Nat)} (hF : IsCnt s F) (hr : rowOkB s = true) (hy : sqOkB kd md dx dy xs = true) (hk : key = true → kd = 2) (hs : s = A ++ sqS key g x kd md dx dy xs ++ Q) :
    sqR F key g x A.size = some ((kd, md, dx, dy, xs), A.size + (sqS key g x kd md dx dy xs).size) := by
  -- the kind
  obtain ⟨K, hK⟩ : ∃ K, (if key = true then (⟨#[]⟩ : ByteArray) else ueS kd) = K := ⟨_, rfl⟩
  obtain ⟨T, hT⟩ : ∃ T, (if kd = 1 then ueS (seF dx) ++ ueS (seF dy) ++ lvS g x xs else if kd = 2 then ueS md ++ lvS g x xs else (⟨#[]⟩ : ByteArray)) = T := ⟨_, rfl⟩
  have e0 : sqS key g x kd md dx dy xs = K ++ T := by unfold sqS; rw [hK, hT]
  rw [e0] at hs ⊢
  have hkd : 0 ≤ kd ∧ kd ≤ 2 := by rcases sqOk_cases hy with h | h | h <;> omega
  have hs1 : s = (A ++ K) ++ T ++ Q := by rw [hs]; simp only [ByteArray.append_assoc]
  have h1 : (if key = true then some ((2 : Int), A.size) else F A.size) = some (kd, (A ++ K).size) := by
    cases key with
    | true =>
      have : K = ⟨#[]⟩ := hK.symm
      rw [if_pos rfl, this, hk rfl, ByteArray.size_append]
      rfl
    | false =>
      have hK' : ueS kd = K := hK
      rw [if_neg (by decide), ← hK']
      rw [← hK'] at hs
      exact ue_put hF hkd.1 (by omega) (Q := T ++ Q) (by rw [hs]; simp only [ByteArray.append_assoc])
  unfold sqR
  rw [h1]
  dsimp only
  have hsz : (A ++ (K ++ T)).size = A.size + (K ++ T).size := ByteArray.size_append
  rcases sqOk_cases hy with ⟨rfl, rfl, rfl, rfl, rfl⟩ | ⟨rfl, rfl, hx, hyy, hq⟩ | ⟨rfl, hm, rfl, rfl, hq⟩
  · rw [if_pos rfl]
    have hT' : T = ⟨#[]⟩ := hT.symm
    rw [hT']
    congr 2
    simp only [ByteArray.size_append]
    rfl
  · rw [if_neg (by decide), if_pos rfl]
    have hT' : ueS (seF dx) ++ ueS (seF dy) ++ lvS g x xs = T := hT
    rw [← hT'] at hs1
    have a1 := seF_16 hx
    have a2 := seF_16 hyy
    have f1 := ue_put hF a1.1 (by omega) (P := A ++ K) (Q := ueS (seF dy) ++ lvS g x xs ++ Q) (by rw [hs1]; simp only [ByteArray.append_assoc])
    have f2 := ue_put hF a2.1 (by omega) (P := A ++ K ++ ueS (seF dx)) (Q := lvS g x xs ++ Q) (by rw [hs1]; simp only [ByteArray.append_assoc])
    obtain ⟨f, f3, f4⟩ := lv_read (g := g) (x := x) (P := A ++ K ++ ueS (seF dx) ++ ueS (seF dy)) (Q := Q) hF hr hq (by rw [hs1]; simp only [ByteArray.append_assoc])
    rw [f1]
    dsimp only
    rw [f2]
    dsimp only
    rw [f3]
    dsimp only
    rw [seO_seF, seO_seF, f4, if_pos hy, ← hT']
    congr 2
    simp only [ByteArray.size_append]
    omega
  · rw [if_neg (by decide), if_neg (by decide), if_pos rfl]
    have hT' : ueS md ++ lvS g x xs = T := hT
    rw [← hT'] at hs1
    have f1 := ue_put hF hm.1 (by omega) (P := A ++ K) (Q := lvS g x xs ++ Q) (by rw [hs1]; simp only [ByteArray.append_assoc])
    obtain ⟨f, f3, f4⟩ := lv_read (g := g) (x := x) (P := A ++ K ++ ueS md) (Q := Q) hF hr hq (by rw [hs1]; simp only [ByteArray.append_assoc])
    rw [f1]
    dsimp only
    rw [f3]
    dsimp only
    rw [f4, if_pos hy, ← hT']
    congr 2
    simp only [ByteArray.size_append]
    omega
end Go.Proofs.YtnlbigjfnjcldaaGreat
