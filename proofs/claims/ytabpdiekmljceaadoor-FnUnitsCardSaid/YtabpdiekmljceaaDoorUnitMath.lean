/-
  Plain facts on units: guards put and taken away, streams of units, and the pieces of a stream. Bytes are numbers.
-/
import Derived.Test.YtabpdiekmljceaaDoorNumKit
namespace Go.Proofs.YtabpdiekmljceaaDoor
open Go.RowKit
set_option linter.unusedVariables false

/-! ### Guards -/
def nx (z : Nat) (b : Int) : Nat := if b = 0 then z + 1 else 0
def esc : Nat → List Int → List Int
  | _, [] => []
  | z, b :: t => if 2 ≤ z ∧ b < 4 then 3 :: b :: esc (nx 0 b) t else b :: esc (nx z b) t
def zs : Nat → List Int → Nat
  | z, [] => z
  | z, b :: t => zs (if 2 ≤ z ∧ b < 4 then nx 0 b else nx z b) t
def tz : Nat → List Int → Nat
  | z, [] => z
  | z, b :: t => tz (nx z b) t
def une : Nat → List Int → List Int
  | _, [] => []
  | z, b :: t => if 2 ≤ z ∧ b = 3 then une (nx z b) t else b :: une (nx z b) t
theorem nx_le (z : Nat) (b : Int) : nx z b ≤ z + 1 := by unfold nx; split <;> omega
theorem esc_append (m : List Int) : ∀ (l : List Int) (z : Nat), esc z (l ++ m) = esc z l ++ esc (zs z l) m
  | [], z => rfl
  | b :: t, z => by
    rw [List.cons_append, esc, esc, zs]
    split <;> simp [esc_append m t]
theorem zs_append (m : List Int) : ∀ (l : List Int) (z : Nat), zs z (l ++ m) = zs (zs z l) m
  | [], z => rfl
  | b :: t, z => by rw [List.cons_append, zs, zs, zs_append m t]
theorem tz_append (m : List Int) : ∀ (l : List Int) (z : Nat), tz z (l ++ m) = tz (tz z l) m
  | [], z => rfl
  | b :: t, z => by rw [List.cons_append, tz, tz, tz_append m t]
theorem une_append (m : List Int) : ∀ (l : List Int) (z : Nat), une z (l ++ m) = une z l ++ une (tz z l) m
  | [], z => rfl
  | b :: t, z => by
    rw [List.cons_append, une, une, tz]
    split <;> simp [une_append m t]
theorem esc_bd : ∀ (l : List Int) (z : Nat), (∀ x ∈ l, 0 ≤ x ∧ x ≤ 255) → ∀ x ∈ esc z l, 0 ≤ x ∧ x ≤ 255
  | [], _, _ => by simp [esc]
  | b :: t, z, h => by
    have h1 := h b (by simp)
    have h2 := fun z => esc_bd t z fun x hx => h x (by simp [hx])
    rw [esc]
    split
    · intro x hx
      simp only [List.mem_cons] at hx
      rcases hx with rfl | rfl | hx
      · omega
      · omega
      · exact h2 _ x hx
    · intro x hx
      simp only [List.mem_cons] at hx
      rcases hx with rfl | hx
      · omega
      · exact h2 _ x hx
theorem une_bd : ∀ (l : List Int) (z : Nat), (∀ x ∈ l, 0 ≤ x ∧ x ≤ 255) → ∀ x ∈ une z l, 0 ≤ x ∧ x ≤ 255
  | [], _, _ => by simp [une]
  | b :: t, z, h => by
    have h1 := h b (by simp)
    have h2 := fun z => une_bd t z fun x hx => h x (by simp [hx])
    rw [une]
    split
    · exact h2 _
    · intro x hx
      simp only [List.mem_cons] at hx
      rcases hx with rfl | hx
      · omega
      · exact h2 _ x hx
theorem esc_length_le : ∀ (l : List Int) (z : Nat), (esc z l).length ≤ 2 * l.length
  | [], _ => by simp [esc]
  | b :: t, z => by
    rw [esc]
    split
    · have := esc_length_le t (nx 0 b); simp; omega
    · have := esc_length_le t (nx z b); simp; omega
theorem esc_length_ge : ∀ (l : List Int) (z : Nat), l.length ≤ (esc z l).length
  | [], _ => by simp [esc]
  | b :: t, z => by
    rw [esc]
    split
    · have := esc_length_ge t (nx 0 b); simp; omega
    · have := esc_length_ge t (nx z b); simp; omega
theorem une_length_le : ∀ (l : List Int) (z : Nat), (une z l).length ≤ l.length
  | [], _ => by simp [une]
  | b :: t, z => by
    rw [une]
    split
    · have := une_length_le t (nx z b); simp; omega
    · have := une_length_le t (nx z b); simp; omega
theorem zs_le : ∀ (l : List Int) (z : Nat), zs z l ≤ z + l.length
  | [], _ => by simp [zs]
  | b :: t, z => by
    rw [zs]
    split
    · have := zs_le t (nx 0 b); have := nx_le 0 b; simp; omega
    · have := zs_le t (nx z b); have := nx_le z b; simp; omega
theorem tz_le : ∀ (l : List Int) (z : Nat), tz z l ≤ z + l.length
  | [], _ => by simp [tz]
  | b :: t, z => by
    rw [tz]
    have := tz_le t (nx z b); have := nx_le z b; simp; omega
theorem tz_esc : ∀ (l : List Int) (z : Nat), tz z (esc z l) = zs z l
  | [], _ => rfl
  | b :: t, z => by
    rw [esc, zs]
    split
    · rw [tz, tz, show nx z 3 = 0 from rfl, tz_esc t]
    · rw [tz, tz_esc t]
theorem une_esc : ∀ (l : List Int) (z : Nat), une z (esc z l) = l
  | [], _ => rfl
  | b :: t, z => by
    rw [esc]
    split
    · rename_i h
      rw [une, if_pos ⟨h.1, rfl⟩, show nx z 3 = 0 from rfl, une, if_neg (by omega), une_esc t]
    · rename_i h
      rw [une, if_neg (by omega), une_esc t]
theorem tz_two (o : List Int) (a b : Int) : 2 ≤ tz 0 (o ++ [a, b]) ↔ a = 0 ∧ b = 0 := by
  rw [tz_append]
  show 2 ≤ nx (nx (tz 0 o) a) b ↔ _
  by_cases hb : b = 0 <;> by_cases ha : a = 0 <;> simp [nx, ha, hb]
theorem tz_short (l : List Int) (h : l.length < 2) : ¬ 2 ≤ tz 0 l := by have := tz_le l 0; omega
/-- The last two of a list, as its places tell it. -/
theorem tz_at (l : List Int) : 2 ≤ tz 0 l ↔ 2 ≤ l.length ∧ l.getD (l.length - 1) 7 = 0 ∧ l.getD (l.length - 2) 7 = 0 := by
  by_cases h : l.length < 2
  · have := tz_short l h
    constructor
    · intro h'; exact absurd h' this
    · intro h'; omega
  · obtain ⟨o, a, b, rfl⟩ : ∃ o a b, l = o ++ [a, b] := by
      rcases List.eq_nil_or_concat l with rfl | ⟨l1, b, rfl⟩
      · simp at h
      · rcases List.eq_nil_or_concat l1 with rfl | ⟨l2, a, rfl⟩
        · simp at h
        · exact ⟨l2, a, b, by simp⟩
    rw [tz_two]
    have e1 : (o ++ [a, b]).length - 1 = o.length + 1 := by simp
    have e2 : (o ++ [a, b]).length - 2 = o.length := by simp
    rw [e1, e2]
    simp [List.getD]
    exact And.comm
theorem esc_snoc (l : List Int) (b : Int) : esc 0 (l ++ [b]) = esc 0 l ++ if 2 ≤ zs 0 l ∧ b < 4 then [3, b] else [b] := by
  rw [esc_append, esc]
  split <;> simp [esc]
theorem zs_snoc (l : List Int) (b : Int) : zs 0 (l ++ [b]) = if 2 ≤ zs 0 l ∧ b < 4 then nx 0 b else nx (zs 0 l) b := by
  rw [zs_append]; rfl
theorem une_snoc (l : List Int) (b : Int) : une 0 (l ++ [b]) = une 0 l ++ if 2 ≤ tz 0 l ∧ b = 3 then [] else [b] := by
  rw [une_append, une]
  split <;> simp [une]
theorem tz_snoc (l : List Int) (b : Int) : tz 0 (l ++ [b]) = nx (tz 0 l) b := by rw [tz_append]; rfl

/-! ### What has an Escaped, what has an Unescaped -/
def escOk (l : List Int) : Bool := decide (1 ≤ l.length ∧ l.length ≤ 60000 ∧ l.getD (l.length - 1) 0 ≠ 0)
def uneOk (l : List Int) : Bool := escOk (une 0 l) && decide (esc 0 (une 0 l) = l)
theorem uneOk_size {l : List Int} (h : uneOk l = true) : l.length ≤ 120000 := by
  unfold uneOk escOk at h
  simp only [Bool.and_eq_true, decide_eq_true_eq] at h
  have := esc_length_le (une 0 l) 0
  rw [h.2] at this
  omega
theorem uneOk_esc {l : List Int} (h : escOk l = true) : uneOk (esc 0 l) = true := by
  unfold uneOk
  rw [une_esc, h]
  simp

/-! ### No beginning among guarded bytes -/
def clean : Nat → List Int → Prop
  | _, [] => True
  | z, b :: t => ¬ (2 ≤ z ∧ b < 3) ∧ clean (nx z b) t
theorem clean_esc : ∀ (l : List Int) (z : Nat), clean z (esc z l)
  | [], _ => trivial
  | b :: t, z => by
    rw [esc]
    split
    · refine ⟨by omega, ?_, clean_esc t _⟩
      show ¬ (2 ≤ 0 ∧ b < 3)
      omega
    · exact ⟨by omega, clean_esc t _⟩
theorem clean_append (m : List Int) : ∀ (l : List Int) (z : Nat), clean z (l ++ m) ↔ clean z l ∧ clean (tz z l) m
  | [], z => by simp [clean, tz]
  | b :: t, z => by
    rw [List.cons_append, clean, clean, tz, clean_append m t]
    exact and_assoc.symm
theorem clean_at {l : List Int} (h : clean 0 l) {k : Nat} (h2 : 2 ≤ k) (hk : k < l.length) (h1 : l.getD (k - 1) 7 = 0) (h0 : l.getD (k - 2) 7 = 0) : ¬ l.getD k 7 < 3 := by
  have e : l = l.take k ++ l[k] :: l.drop (k + 1) := by rw [← List.drop_eq_getElem_cons hk, List.take_append_drop]
  rw [e, clean_append] at h
  have ht : 2 ≤ tz 0 (l.take k) := by
    rw [tz_at]
    have hl : (l.take k).length = k := by simp; omega
    rw [hl]
    refine ⟨h2, ?_, ?_⟩
    · rw [← h1, List.getD, List.getD, List.getElem?_take, if_pos (by omega)]
    · rw [← h0, List.getD, List.getD, List.getElem?_take, if_pos (by omega)]
  intro h3
  rw [List.getD, List.getElem?_eq_getElem hk] at h3
  exact h.2.1 ⟨ht, h3⟩

/-! ### The pieces of a stream -/
def cuts : List Int → List Int × List (List Int)
  | [] => ([], [])
  | b :: t => if b = 0 ∧ t.take 2 = [0, 1] then ([], (cuts (t.drop 2)).1 :: (cuts (t.drop 2)).2) else (b :: (cuts t).1, (cuts t).2)
termination_by l => l.length
decreasing_by all_goals (simp; try omega)
theorem cuts_nil : cuts [] = ([], []) := by rw [cuts]
theorem cuts_here (t : List Int) : cuts (0 :: 0 :: 1 :: t) = ([], (cuts t).1 :: (cuts t).2) := by
  rw [cuts, if_pos ⟨rfl, rfl⟩]; rfl
theorem cuts_step {b : Int} {t : List Int} (h : ¬ (b = 0 ∧ t.take 2 = [0, 1])) : cuts (b :: t) = (b :: (cuts t).1, (cuts t).2) := by
  rw [cuts, if_neg h]
theorem cuts_clean (r : List Int) : ∀ (e : List Int) (z : Nat), clean z e → (e = [] ∨ e.getD (e.length - 1) 0 ≠ 0) → cuts (e ++ r) = (e ++ (cuts r).1, (cuts r).2)
  | [], _, _, _ => rfl
  | b :: t, z, hc, hl => by
    have hl' : t = [] ∨ t.getD (t.length - 1) 0 ≠ 0 := by
      rcases t with _ | ⟨x, t⟩
      · exact .inl rfl
      · right
        rcases hl with h | h
        · simp at h
        · simpa [List.getD] using h
    rw [List.cons_append, cuts_step, cuts_clean r t (nx z b) hc.2 hl']
    · rfl
    · rintro ⟨rfl, ht⟩
      rcases t with _ | ⟨x, _ | ⟨y, t⟩⟩
      · simp [List.getD] at hl
      · rcases hl' with h | h
        · simp at h
        · simp only [List.length_cons, List.length_nil, List.getD] at h
          simp only [List.cons_append, List.take_succ_cons, List.cons.injEq] at ht
          exact h (by simp [ht.1])
      · simp only [List.cons_append, List.take_succ_cons, List.cons.injEq] at ht
        obtain ⟨rfl, rfl, _⟩ := ht
        have := hc.2.2.1
        simp [nx] at this

/-! ### Streams -/
def trimR (l : List Int) : List Int := (l.reverse.dropWhile (· == 0)).reverse
def pushU (acc : List (List Int)) (p : List Int) : List (List Int) :=
  if uneOk (trimR p) = true ∧ acc.length < 400 then acc ++ [une 0 (trimR p)] else acc
def unitsOf (s : List Int) : List (List Int) := if 60000 < s.length then [] else (cuts s).2.foldl pushU []
def frF : List Int → List (List Int) → Option (List Int)
  | acc, [] => some acc
  | acc, u :: t => if escOk u = true ∧ acc.length + 3 + (esc 0 u).length ≤ 60000 then frF (acc ++ 0 :: 0 :: 1 :: esc 0 u) t else none
def framed (us : List (List Int)) : Option (List Int) := if 400 < us.length then none else frF [] us
theorem escOk_parts {l : List Int} (h : escOk l = true) : 1 ≤ l.length ∧ l.length ≤ 60000 ∧ l.getD (l.length - 1) 0 ≠ 0 := by
  unfold escOk at h; exact of_decide_eq_true h
theorem getD_last (l : List Int) (b d : Int) : (l ++ [b]).getD ((l ++ [b]).length - 1) d = b := by
  simp [List.getD]
theorem esc_last {l : List Int} (h : escOk l = true) : 1 ≤ (esc 0 l).length ∧ (esc 0 l).getD ((esc 0 l).length - 1) 0 ≠ 0 := by
  obtain ⟨h1, _, h3⟩ := escOk_parts h
  have := esc_length_ge l 0
  refine ⟨by omega, ?_⟩
  rcases List.eq_nil_or_concat l with rfl | ⟨l1, b, rfl⟩
  · simp at h1
  · rw [List.concat_eq_append] at *
    rw [getD_last] at h3
    rw [esc_snoc]
    split
    · rw [show esc 0 l1 ++ [3, b] = (esc 0 l1 ++ [3]) ++ [b] from by simp, getD_last]; exact h3
    · rw [getD_last]; exact h3
theorem trimR_same {l : List Int} (h : l = [] ∨ l.getD (l.length - 1) 0 ≠ 0) : trimR l = l := by
  rcases List.eq_nil_or_concat l with rfl | ⟨l1, b, rfl⟩
  · rfl
  · rw [List.concat_eq_append] at *
    rcases h with h | h
    · simp at h
    · rw [getD_last] at h
      unfold trimR
      simp [h]
theorem trimR_snoc (l : List Int) : trimR (l ++ [0]) = trimR l := by unfold trimR; simp
def fr (us : List (List Int)) : List Int := us.flatMap fun u => 0 :: 0 :: 1 :: esc 0 u
theorem fr_cons (u : List Int) (t : List (List Int)) : fr (u :: t) = 0 :: 0 :: 1 :: (esc 0 u ++ fr t) := by simp [fr]
theorem cuts_fr : ∀ us : List (List Int), (∀ u ∈ us, escOk u = true) → cuts (fr us) = ([], us.map (esc 0))
  | [], _ => cuts_nil
  | u :: t, h => by
    have hu := h u (by simp)
    have ht := cuts_fr t fun x hx => h x (by simp [hx])
    rw [fr_cons, cuts_here, cuts_clean (fr t) _ 0 (clean_esc u 0) (.inr (esc_last hu).2), ht]
    simp
theorem push_fr : ∀ (us : List (List Int)) (acc : List (List Int)), (∀ u ∈ us, escOk u = true) → acc.length + us.length ≤ 400 → (us.map (esc 0)).foldl pushU acc = acc ++ us
  | [], acc, _, _ => by simp
  | u :: t, acc, h, hn => by
    have hu := h u (by simp)
    simp only [List.length_cons] at hn
    rw [List.map_cons, List.foldl_cons]
    have e : pushU acc (esc 0 u) = acc ++ [u] := by
      unfold pushU
      rw [trimR_same (.inr (esc_last hu).2), uneOk_esc hu, if_pos ⟨rfl, by omega⟩, une_esc]
    rw [e, push_fr t _ (fun x hx => h x (by simp [hx])) (by simp; omega)]
    simp
theorem units_fr {us : List (List Int)} (h : ∀ u ∈ us, escOk u = true) (hn : us.length ≤ 400) (hl : (fr us).length ≤ 60000) : unitsOf (fr us) = us := by
  unfold unitsOf
  rw [if_neg (by omega), cuts_fr us h, push_fr us [] h (by simpa using hn)]
  rfl
theorem units_junk {us : List (List Int)} (x y : Int) (hx : x ≠ 0) (hy : y ≠ 0) (h : ∀ u ∈ us, escOk u = true) (hn : us.length ≤ 400) (hl : (fr us).length + 2 ≤ 60000) : unitsOf (x :: y :: fr us) = us := by
  unfold unitsOf
  rw [if_neg (by simp; omega), cuts_step (fun e => hx e.1), cuts_step (fun e => hy e.1), cuts_fr us h]
  show (us.map (esc 0)).foldl pushU [] = us
  rw [push_fr us [] h (by simpa using hn)]
  rfl
theorem frF_fr : ∀ (us : List (List Int)) (acc : List Int), (∀ u ∈ us, escOk u = true) → acc.length + (fr us).length ≤ 60000 → frF acc us = some (acc ++ fr us)
  | [], acc, _, _ => by simp [frF, fr]
  | u :: t, acc, h, hl => by
    rw [fr_cons] at hl
    simp only [List.length_cons, List.length_append] at hl
    rw [frF, if_pos ⟨h u (by simp), by omega⟩, frF_fr t _ (fun x hx => h x (by simp [hx])) (by simp; omega), fr_cons]
    simp
theorem framed_fr {us : List (List Int)} (h : ∀ u ∈ us, escOk u = true) (hn : us.length ≤ 400) (hl : (fr us).length ≤ 60000) : framed us = some (fr us) := by
  unfold framed
  rw [if_neg (by omega), frF_fr us [] h (by simpa using hl)]
  rfl
theorem unitsOf_length (s : List Int) : (unitsOf s).length ≤ 400 := by
  unfold unitsOf
  split
  · simp
  · suffices h : ∀ (ps acc : List (List Int)), acc.length ≤ 400 → (ps.foldl pushU acc).length ≤ 400 from h _ [] (by simp)
    intro ps
    induction ps with
    | nil => intro acc h; exact h
    | cons p t ih =>
      intro acc h
      rw [List.foldl_cons]
      apply ih
      unfold pushU
      split
      · simp; omega
      · exact h
end Go.Proofs.YtabpdiekmljceaaDoor
