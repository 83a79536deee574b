/-
  Runs of a list of numbers: each number that is not 0, with how many noughts stand ahead of it; their rows and how long these are.
  spec.l11Runs, spec.RunsRow, spec.RunsSize.
  impl.runsPlacesOk, impl.runsOf, run.row, run.size.
-/
import Derived.Test.YtnlbigjfnjcldaaGreatCountAll
import Derived.Test.YtnlbigjfnjcldaaGreatRowAll
import Derived.Test.YtnlbigjfnjcldaaGreatIntAll
import Derived.Deep.RegionWith
import Derived.Test.YtnlbigjfnjcldaaGreatBlkKit
import Derived.Deep.AppendLies
import Derived.BigQuiet
set_option maxRecDepth 20000
namespace Go.Proofs.YtnlbigjfnjcldaaGreat
open Go.RowKit
set_option linter.unusedVariables false
set_option maxRecDepth 20000

/-- How many noughts stand at the end of the first k numbers. -/
def zrF (xs : List Int) : Nat → Nat
  | 0 => 0
  | k + 1 => if xs.getD k 0 = 0 then zrF xs k + 1 else 0
/-- The runs of the first k numbers. -/
def rnF (xs : List Int) : Nat → List (Nat × Int)
  | 0 => []
  | k + 1 => if xs.getD k 0 = 0 then rnF xs k else rnF xs k ++ [(zrF xs k, xs.getD k 0)]
theorem zrF_nought {xs : List Int} {k : Nat} (h : xs.getD k 0 = 0) : zrF xs (k + 1) = zrF xs k + 1 := if_pos h
theorem zrF_level {xs : List Int} {k : Nat} (h : ¬ xs.getD k 0 = 0) : zrF xs (k + 1) = 0 := if_neg h
theorem rnF_nought {xs : List Int} {k : Nat} (h : xs.getD k 0 = 0) : rnF xs (k + 1) = rnF xs k := if_pos h
theorem rnF_level {xs : List Int} {k : Nat} (h : ¬ xs.getD k 0 = 0) : rnF xs (k + 1) = rnF xs k ++ [(zrF xs k, xs.getD k 0)] := if_neg h
theorem zr_rn_le (xs : List Int) : ∀ k, zrF xs k + (rnF xs k).length ≤ k
  | 0 => Nat.le_refl _
  | k + 1 => by
    have := zr_rn_le xs k
    by_cases h : xs.getD k 0 = 0
    · rw [zrF_nought h, rnF_nought h]; omega
    · rw [zrF_level h, rnF_level h, List.length_append]; simp; omega
/-- A run that a list of numbers of -5000 .. 5000 has. -/
def RunOk (r : Nat × Int) : Prop := r.1 ≤ 64 ∧ -5000 ≤ r.2 ∧ r.2 ≤ 5000 ∧ r.2 ≠ 0
theorem rn_ok {xs : List Int} (hb : inB 5000 xs = true) (hl : xs.length ≤ 64) : ∀ k, k ≤ xs.length → ∀ r ∈ rnF xs k, RunOk r
  | 0, _, r, hr => by cases hr
  | k + 1, hk, r, hr => by
    have ih := rn_ok hb hl k (by omega)
    by_cases h : xs.getD k 0 = 0
    · rw [rnF_nought h] at hr
      exact ih r hr
    · rw [rnF_level h] at hr
      rcases List.mem_append.1 hr with h1 | h1
      · exact ih r h1
      · rw [List.mem_singleton.1 h1]
        have h2 := inB_iff.1 hb k (by omega)
        have h3 := zr_rn_le xs k
        exact ⟨by show zrF xs k ≤ 64; omega, h2.1, h2.2, h⟩

/-- The signs of a run, and of runs one behind the other. -/
def runL (r : Nat × Int) : List Int := ueL (r.1 : Int) ++ ueL (seF r.2)
def bodyL : List (Nat × Int) → List Int
  | [] => []
  | r :: rs => runL r ++ bodyL rs
theorem bodyL_append (a b : List (Nat × Int)) : bodyL (a ++ b) = bodyL a ++ bodyL b := by
  induction a with
  | nil => rfl
  | cons r rs ih => show runL r ++ bodyL (rs ++ b) = (runL r ++ bodyL rs) ++ bodyL b; rw [ih, List.append_assoc]
theorem bodyL_one (r : Nat × Int) : bodyL [r] = runL r := List.append_nil _
theorem runL_signs (r : Nat × Int) : Signs (runL r) := (ueL_signs _).append (ueL_signs _)
theorem bodyL_signs : ∀ rs : List (Nat × Int), Signs (bodyL rs)
  | [] => fun x hx => by cases hx
  | r :: rs => (runL_signs r).append (bodyL_signs rs)
/-- The row of runs. -/
def rowL (rs : List (Nat × Int)) : List Int := ueL (rs.length : Int) ++ bodyL rs
theorem rowL_signs (rs : List (Nat × Int)) : Signs (rowL rs) := (ueL_signs _).append (bodyL_signs rs)
theorem strOfNums_app (a b : List Int) : strOfNums a ++ strOfNums b = strOfNums (a ++ b) := by
  apply ByteArray.ext
  simp [strOfNums]

theorem ueL_len (n : Int) (h0 : 0 ≤ n) (h1 : n ≤ 1000000) : (ueL n).length = 2 * wid (n + 1) - 1 ∧ 1 ≤ wid (n + 1) ∧ wid (n + 1) ≤ 20 := by
  obtain ⟨w1, w2, _⟩ := wid_pow (n + 1) (by omega) (by omega)
  refine ⟨?_, w1, w2⟩
  have := ueS_size n h0 h1
  unfold ueS at this
  rw [← this]
  simp [strOfNums, ByteArray.size]
theorem seF_in {n : Int} (h : -5000 ≤ n ∧ n ≤ 5000) : 0 ≤ seF n ∧ seF n ≤ 10000 := by
  unfold seF
  split <;> omega
/-- How long the signs of a run are. -/
def runN (r : Nat × Int) : Int := (2 * (wid ((r.1 : Int) + 1) : Int) - 1) + (2 * (wid (seF r.2 + 1) : Int) - 1)
theorem runL_len {r : Nat × Int} (h : RunOk r) : ((runL r).length : Int) = runN r ∧ 2 ≤ runN r ∧ runN r ≤ 78 := by
  obtain ⟨h1, h2, h3, _⟩ := h
  obtain ⟨a1, a2, a3⟩ := ueL_len (r.1 : Int) (by omega) (by omega)
  have hs := seF_in ⟨h2, h3⟩
  obtain ⟨b1, b2, b3⟩ := ueL_len (seF r.2) hs.1 (by omega)
  unfold runL runN
  rw [List.length_append, a1, b1]
  omega
def sumN : List (Nat × Int) → Int
  | [] => 0
  | r :: rs => runN r + sumN rs
theorem sumN_append (a b : List (Nat × Int)) : sumN (a ++ b) = sumN a + sumN b := by
  induction a with
  | nil => simp [sumN]
  | cons r rs ih => show runN r + sumN (rs ++ b) = (runN r + sumN rs) + sumN b; rw [ih]; omega
theorem bodyL_len : ∀ {rs : List (Nat × Int)}, (∀ r ∈ rs, RunOk r) → ((bodyL rs).length : Int) = sumN rs ∧ 0 ≤ sumN rs ∧ sumN rs ≤ 78 * rs.length
  | [], _ => ⟨rfl, by decide, by decide⟩
  | r :: rs, h => by
    obtain ⟨a1, a2, a3⟩ := runL_len (h r (by simp))
    obtain ⟨b1, b2, b3⟩ := bodyL_len (rs := rs) (fun x hx => h x (by simp [hx]))
    show ((runL r ++ bodyL rs).length : Int) = runN r + sumN rs ∧ 0 ≤ runN r + sumN rs ∧ runN r + sumN rs ≤ 78 * ((r :: rs).length : Int)
    rw [List.length_append, List.length_cons]
    omega
/-- The cells of runs. -/
def runCells : List (Nat × Int) → List Value
  | [] => []
  | r :: rs => .int .i64 (r.1 : Int) :: .int .i64 r.2 :: runCells rs
theorem runCells_append (a b : List (Nat × Int)) : runCells (a ++ b) = runCells a ++ runCells b := by
  induction a with
  | nil => rfl
  | cons r rs ih => simp [runCells, ih]
theorem runCells_len (rs : List (Nat × Int)) : (runCells rs).length = rs.length * 2 := by
  induction rs with
  | nil => rfl
  | cons r rs ih => simp [runCells, ih]; omega
theorem runCells_get (rs : List (Nat × Int)) : ∀ k, k < rs.length → (runCells rs)[k * 2]? = some (.int .i64 ((rs.getD k (0, 0)).1 : Int)) ∧ (runCells rs)[k * 2 + 1]? = some (.int .i64 (rs.getD k (0, 0)).2) := by
  induction rs with
  | nil => intro k hk; cases hk
  | cons r rs ih =>
    intro k hk
    cases k with
    | zero => exact ⟨rfl, rfl⟩
    | succ k =>
      have := ih k (by simpa using hk)
      rw [show (k + 1) * 2 = k * 2 + 1 + 1 by omega]
      simpa [runCells] using this
theorem take_snoc (rs : List (Nat × Int)) (k : Nat) (hk : k < rs.length) : rs.take (k + 1) = rs.take k ++ [rs.getD k (0, 0)] := by
  rw [List.take_add_one, List.getElem?_eq_getElem hk]
  simp [List.getD, hk]
theorem getD_mem (rs : List (Nat × Int)) (k : Nat) (hk : k < rs.length) : rs.getD k (0, 0) ∈ rs := by
  rw [List.getD_eq_getElem?_getD, List.getElem?_eq_getElem hk]
  exact List.getElem_mem _

/-- Whether a list has a row of runs. -/
def rnOk (xs : List Int) : Bool := (decide (xs.length = 16) || decide (xs.length = 64)) && inB 5000 xs
/-- .. and the row. -/
def rnS (xs : List Int) : ByteArray := if rnOk xs = true then strOfNums (rowL (rnF xs xs.length)) else ⟨#[]⟩
theorem rnOk_of {xs : List Int} (h : rnOk xs = true) : (xs.length = 16 ∨ xs.length = 64) ∧ inB 5000 xs = true := by
  unfold rnOk at h
  simpa using h
end Go.Proofs.YtnlbigjfnjcldaaGreat

namespace Go.Proofs.YtnlbigjfnjcldaaGreat
open Go.RowKit
set_option linter.unusedVariables false

theorem sizeS (l : List Int) : (strOfNums l).size = l.length := by simp [strOfNums, ByteArray.size]
theorem ueS_is (n : Int) : ueS n = strOfNums (ueL n) := rfl

set_option maxHeartbeats 1600000 in
theorem specRuns (a : Option Addr) (cap : Nat) (xs : List Int) (w : World) (h : Ints w a xs) (hl : xs.length ≤ 64) (hin : inB 5000 xs = true) :
    Calls Tryz.prog 68 #[.slice a xs.length cap] w fun e w' => e = .returned (.string (strOfNums (rowL (rnF xs xs.length)))) ∧ Below w.heap.size w w' := by
  have H : Hid (Ints w a xs) := h
  have HI : Hid (∀ k, k < xs.length → -5000 ≤ xs.getD k 0 ∧ xs.getD k 0 ≤ 5000) := inB_iff.1 hin
  have HR : Hid (∀ k, k ≤ xs.length → ∀ r ∈ rnF xs k, RunOk r) := rn_ok hin hl
  have n64 : (xs.length : Int) ≤ 64 := by omega
  clear h hin
  go_enter Tryz.func68, Tryz.ntmps68
  go_wp2
  go_loopw [3, 4, 5, 6] (fun n z o i wr => ∃ k : Nat, k ≤ xs.length ∧ n = .int .i64 ((rnF xs k).length : Int) ∧ z = .int .i64 (zrF xs k : Int) ∧ o = .string (strOfNums (bodyL (rnF xs k))) ∧ i = .int .i64 (k : Int) ∧ Below w.heap.size w wr) (fun _ _ _ i _ => xs.length - (intOf i).toNat)
  case atStart => exact ⟨0, Nat.zero_le _, rfl, rfl, rfl, rfl, Below.refl _ _⟩
  case round =>
    obtain ⟨k, hk, rfl, rfl, rfl, rfl, hb⟩ := hrel
    have l0 : (0 : Int) ≤ (k : Int) := by omega
    have hzn := zr_rn_le xs k
    by_cases hlt : k < xs.length
    · have l1 : (k : Int) < (xs.length : Int) := by omega
      have x0 := HI.out k hlt
      have HB := bodyL_len (HR.out k hk)
      rcases (H.out.below hb (Nat.le_refl _)) with h0 | ⟨b, off, rfl, hg, hc⟩
      · rw [h0] at hlt; cases hlt
      have d1 := hc k hlt
      clear hc
      by_cases hx : xs.getD k 0 = 0
      · have E1 : Hid (zrF xs (k + 1) = zrF xs k + 1) := zrF_nought hx
        have E2 : Hid (rnF xs (k + 1) = rnF xs k) := rnF_nought hx
        rw [hx] at d1
        clear hx x0
        have z0 : (0 : Int) ≤ (zrF xs k : Int) := by omega
        have z1 : (zrF xs k : Int) ≤ 64 := by omega
        go_wp2
        go_roundw
        case rel => exact ⟨k + 1, by omega, by rw [E2.out], by rw [E1.out]; go_num, by rw [E2.out], by go_num, hb⟩
        case measure => simp [intOf]; omega
      · have E1 : Hid (zrF xs (k + 1) = 0) := zrF_level hx
        have E2 : Hid (rnF xs (k + 1) = rnF xs k ++ [(zrF xs k, xs.getD k 0)]) := rnF_level hx
        obtain ⟨z, hz⟩ : ∃ z, zrF xs k = z := ⟨_, rfl⟩
        obtain ⟨x, hxx⟩ : ∃ x, xs.getD k 0 = x := ⟨_, rfl⟩
        rw [hxx] at hx d1 x0 E2
        rw [hz] at hzn E2 ⊢
        have z0 : (0 : Int) ≤ (z : Int) := by omega
        have z1 : (z : Int) ≤ 64 := by omega
        have s0 := seF_in x0
        have CU : Hid (∀ w', Calls Tryz.prog 56 #[.int .i64 (z : Int)] w' (fun e w'' => e = .returned (.string (ueS (z : Int))) ∧ Below w'.heap.size w' w'')) := fun w' => specUe (z : Int) w' z0 (by omega)
        have CS : Hid (∀ w', Calls Tryz.prog 57 #[.int .i64 x] w' (fun e w'' => e = .returned (.string (ueS (seF x))) ∧ Below w'.heap.size w' w'')) := fun w' => specSe x w' (by omega)
        have hu := (ueL_len (z : Int) z0 (by omega)).1
        have hu2 := (ueL_len (z : Int) z0 (by omega)).2.2
        have hs := (ueL_len (seF x) s0.1 (by omega)).1
        have hs2 := (ueL_len (seF x) s0.1 (by omega)).2.2
        have HS : Hid (strOfNums (bodyL (rnF xs k)) ++ ueS (z : Int) ++ ueS (seF x) = strOfNums (bodyL (rnF xs (k + 1)))) := by
          show _ = _
          rw [E2.out, bodyL_append, bodyL_one, ueS_is, ueS_is, strOfNums_app, strOfNums_app, List.append_assoc]
          rfl
        have HN : Hid ((rnF xs (k + 1)).length = (rnF xs k).length + 1) := by
          show _ = _
          rw [E2.out, List.length_append]
          rfl
        have q1 : (strOfNums (bodyL (rnF xs k))).size ≤ 5100 := by rw [sizeS]; omega
        have q2 : (ueS (z : Int)).size ≤ 40 := by rw [ueS_is, sizeS]; omega
        have q3 : (ueS (seF x)).size ≤ 40 := by rw [ueS_is, sizeS]; omega
        generalize strOfNums (bodyL (rnF xs k)) = T at *
        generalize ueS (z : Int) = U at *
        generalize ueS (seF x) = V at *
        have q4 : (T ++ U).size = T.size + U.size := by simp
        have c1 : ¬ 9223372036854775807 < T.size + U.size := by omega
        have c2 : ¬ 9223372036854775807 < (T ++ U).size + V.size := by omega
        have c3 : ¬ 9223372036854775807 < T.size + U.size + V.size := by omega
        have m0 : (0 : Int) ≤ ((rnF xs k).length : Int) := by omega
        have m1 : ((rnF xs k).length : Int) ≤ 64 := by omega
        generalize (rnF xs k).length = m at *
        have hq0 : Below wr.heap.size wr wr.drew := (Below.refl _ _).drew
        have HWR : Hid (Below w.heap.size w wr) := hb
        clear hz hxx hzn hu hu2 hs hs2 HB q1 q2 q3 q4 s0 x0 E2 hb
        go_wp2
        go_region_with (first
          | (go_at_call 56; refine (CU.out _).mono ?_; rintro e w1 ⟨rfl, hc1⟩; have hq1 : Below wr.heap.size wr w1 := (by first | exact hq2.trans (hc1.mono hq2.size) | exact hq0.trans (hc1.mono hq0.size)); have d2 := (hq1.cell (p := ⟨b, off + k, none⟩) hg).trans d1; clear hc1)
          | (go_at_call 57; refine (CS.out _).mono ?_; rintro e w2 ⟨rfl, hc2⟩; have hq2 : Below wr.heap.size wr w2 := (by first | exact hq1.trans (hc2.mono hq1.size) | exact hq0.trans (hc2.mono hq0.size)); clear hc2))
        all_goals
          have H3 : Hid (∀ w', Below wr.heap.size wr w' → Below w.heap.size w w') := fun w' h => HWR.out.trans (h.mono HWR.out.size)
          go_wp2
          go_roundw
          case rel => exact ⟨k + 1, by omega, by rw [HN.out]; go_num, by rw [E1.out]; go_num, by rw [← HS.out], by go_num, H3.out _ (by first | exact hq1 | exact hq2)⟩
          case measure => simp [intOf]; omega
    · obtain rfl : k = xs.length := by omega
      have HB := bodyL_len (HR.out xs.length (Nat.le_refl _))
      have hm : (rnF xs xs.length).length ≤ 64 := by omega
      have CU : Hid (∀ w', Calls Tryz.prog 56 #[.int .i64 ((rnF xs xs.length).length : Int)] w' (fun e w'' => e = .returned (.string (ueS ((rnF xs xs.length).length : Int))) ∧ Below w'.heap.size w' w'')) := fun w' => specUe _ w' (by omega) (by omega)
      have hu := (ueL_len ((rnF xs xs.length).length : Int) (by omega) (by omega)).1
      have hu2 := (ueL_len ((rnF xs xs.length).length : Int) (by omega) (by omega)).2.2
      have HS : Hid (ueS ((rnF xs xs.length).length : Int) ++ strOfNums (bodyL (rnF xs xs.length)) = strOfNums (rowL (rnF xs xs.length))) := by
        show _ = _
        rw [ueS_is, strOfNums_app]
        rfl
      have q1 : (strOfNums (bodyL (rnF xs xs.length))).size ≤ 5100 := by rw [sizeS]; omega
      have q2 : (ueS ((rnF xs xs.length).length : Int)).size ≤ 40 := by rw [ueS_is, sizeS]; omega
      generalize strOfNums (bodyL (rnF xs xs.length)) = T at *
      generalize ueS ((rnF xs xs.length).length : Int) = U at *
      have c1 : ¬ 9223372036854775807 < U.size + T.size := by omega
      clear q1 q2 hu hu2 HB
      go_wp2_with (go_at_call 56; refine (CU.out _).mono ?_; rintro e w1 ⟨rfl, hc1⟩)
      go_ret
      exact ⟨congrArg (fun t => Ending.returned (Value.string t)) HS.out, hb.trans (hc1.mono hb.size)⟩

theorem rnS_le (xs : List Int) : (rnS xs).size ≤ 5200 := by
  unfold rnS
  split
  · rename_i h
    obtain ⟨h1, h2⟩ := rnOk_of h
    have hl : xs.length ≤ 64 := by rcases h1 with h | h <;> omega
    have hb := bodyL_len (rn_ok h2 hl xs.length (Nat.le_refl _))
    have hz := zr_rn_le xs xs.length
    have hu := ueL_len ((rnF xs xs.length).length : Int) (by omega) (by omega)
    rw [sizeS]
    unfold rowL
    rw [List.length_append]
    omega
  · show (0 : Nat) ≤ 5200
    omega

end Go.Proofs.YtnlbigjfnjcldaaGreat

namespace Go.Proofs.YtnlbigjfnjcldaaGreat
open Go.RowKit
set_option linter.unusedVariables false

theorem below_drewM {B : Nat} {w w' : World} (h : Below B w w') : ∀ n, Below B w (w'.drewN n)
  | 0 => h
  | n + 1 => (below_drewM h n).drew

theorem placesOk_any (n : Int) (w : World) : Calls Tryz.prog 150 #[.int .i64 n] w fun e w' => e = .returned (.bool (decide (n = 16) || decide (n = 64))) ∧ w' = w := by
  by_cases h1 : n = 16
  · subst h1
    go_enter Tryz.func150, Tryz.ntmps150
    go_wp2
    go_ret
    exact ⟨rfl, rfl⟩
  · by_cases h2 : n = 64
    · subst h2
      go_enter Tryz.func150, Tryz.ntmps150
      go_wp2
      go_ret
      exact ⟨rfl, rfl⟩
    · have e1 : (decide (n = 16) || decide (n = 64)) = false := by simp [h1, h2]
      rw [e1]
      have q1 : (n == 16) = false := by rw [beq_eq_false_iff_ne]; exact h1
      have q2 : (n == 64) = false := by rw [beq_eq_false_iff_ne]; exact h2
      go_enter Tryz.func150, Tryz.ntmps150
      go_wp2
      go_ret
      exact ⟨by simp, rfl⟩

theorem infoR : (Tryz.prog.info? 159).map (fun i => (i.zero, i.size, i.bytes)) = some (some (.agg #[.int .i64 0, .int .i64 0]), 2, 16) := by kernel_rfl

set_option maxHeartbeats 1600000 in
theorem runsOf_yes (a : Option Addr) (cap : Nat) (xs : List Int) (w : World) (h : Ints w a xs) (hy : rnOk xs = true) :
    Calls Tryz.prog 135 #[.slice a xs.length cap] w fun e w' => (∃ v, e = .returned (.tuple #[v, .bool true]) ∧ w'.ownsRow w.heap.size 159 2 v (rnF xs xs.length).length (runCells (rnF xs xs.length))) ∧ Below w.heap.size w w' := by
  obtain ⟨i0, hi0, hz0, hz1, hz2⟩ := info_parts infoR
  obtain ⟨h1, h2⟩ := rnOk_of hy
  have hl : xs.length ≤ 64 := by rcases h1 with h | h <;> omega
  have CP := placesOk_any (xs.length : Int)
  rw [show (decide ((xs.length : Int) = 16) || decide ((xs.length : Int) = 64)) = true by rcases h1 with h | h <;> rw [h] <;> rfl] at CP
  have HP : Hid (∀ w', Calls Tryz.prog 150 #[.int .i64 (xs.length : Int)] w' (fun e w'' => e = .returned (.bool true) ∧ w'' = w')) := CP
  have CA := implAll a cap xs 5000 w h (by unfold maxLen; omega) (by omega) (by omega)
  rw [h2] at CA
  have HA : Hid (Calls Tryz.prog 119 #[.slice a xs.length cap, .int .i64 5000] w (fun e w' => e = .returned (.bool true) ∧ Below w.heap.size w w')) := CA
  have H : Hid (Ints w a xs) := h
  have n64 : (xs.length : Int) ≤ 64 := by omega
  have HK : Hid (rnOk xs = true) := hy
  clear CP CA h h1 h2 hy
  go_enter Tryz.func135, Tryz.ntmps135
  go_wp2_with (first
    | (go_at_call 150; refine (HP.out _).mono ?_; rintro e w1 ⟨rfl, hw⟩; subst w1)
    | (go_at_call 119; refine HA.out.mono ?_; rintro e w2 ⟨rfl, hc2⟩)
    | (at_make; refine wpList_make_own _ (by rfl) _ _ 163 (by rfl) w.heap.size 159 i0 (.agg #[.int .i64 0, .int .i64 0]) 2 Tryz.underlying163 hi0 hz0 hz1 .i64 .i64 _ xs.length (by rfl) (by rfl) (by omega) (by rw [hz2]; omega) (by unfold maxLen; omega) hc2.size ?_; intro w3 hown0 hgrow0; have hb0 : Below w.heap.size w w3 := hc2.grown hgrow0 hc2.size (fun j hj => by cases hj)))
  clear hgrow0 hc2
  go_loopw [4, 5, 23] (fun v z i wr => ∃ k : Nat, k ≤ xs.length ∧ i = .int .i64 (k : Int) ∧ z = .int .i64 (zrF xs k : Int) ∧ wr.ownsRow w.heap.size 159 2 v (rnF xs k).length (runCells (rnF xs k)) ∧ Below w.heap.size w wr) (fun _ _ i _ => xs.length - (intOf i).toNat)
  case atStart => exact ⟨0, Nat.zero_le _, rfl, rfl, hown0, hb0⟩
  case round =>
    obtain ⟨k, hk, rfl, rfl, hown, hb⟩ := hrel
    clear hown0 hb0
    have l0 : (0 : Int) ≤ (k : Int) := by omega
    have hzn := zr_rn_le xs k
    by_cases hlt : k < xs.length
    · have l1 : (k : Int) < (xs.length : Int) := by omega
      rcases (H.out.below hb (Nat.le_refl _)) with h0 | ⟨b, off, rfl, hg, hc⟩
      · rw [h0] at hlt; cases hlt
      have d1 := hc k hlt
      clear hc
      by_cases hx : xs.getD k 0 = 0
      · have E1 : Hid (zrF xs (k + 1) = zrF xs k + 1) := zrF_nought hx
        have E2 : Hid (rnF xs (k + 1) = rnF xs k) := rnF_nought hx
        rw [hx] at d1
        clear hx
        have z0 : (0 : Int) ≤ (zrF xs k : Int) := by omega
        have z1 : (zrF xs k : Int) ≤ 64 := by omega
        go_wp2
        go_roundw
        case rel => exact ⟨k + 1, by omega, by go_num, by rw [E1.out]; go_num, by rw [E2.out]; exact hown, hb⟩
        case measure => simp [intOf]; omega
      · have E1 : Hid (zrF xs (k + 1) = 0) := zrF_level hx
        have E2 : Hid (rnF xs (k + 1) = rnF xs k ++ [(zrF xs k, xs.getD k 0)]) := rnF_level hx
        obtain ⟨z, hz⟩ : ∃ z, zrF xs k = z := ⟨_, rfl⟩
        obtain ⟨x, hxx⟩ : ∃ x, xs.getD k 0 = x := ⟨_, rfl⟩
        rw [hxx] at hx d1 E2
        rw [hz] at hzn E2 ⊢
        have HC : Hid (runCells (rnF xs k) ++ [.int .i64 (z : Int), .int .i64 x] = runCells (rnF xs (k + 1))) := by
          show _ = _
          rw [E2.out, runCells_append]
          rfl
        have HN : Hid ((rnF xs (k + 1)).length = (rnF xs k).length + 1) := by
          show _ = _
          rw [E2.out, List.length_append]
          rfl
        generalize (rnF xs k).length = m at *
        generalize runCells (rnF xs k) = C at *
        have m0 : m ≤ 64 := by omega
        clear hz hxx hzn E2
        go_wp2_with (at_builtin; refine wpList_append_lies _ (by rfl) _ _ 163 (by rfl) w.heap.size 159 i0 (.agg #[.int .i64 0, .int .i64 0]) 2 16 Tryz.underlying163 hi0 hz0 hz1 hz2 rfl (by omega) u4 m _ (by rfl) (hown.alloc _) ⟨wr.heap.size, 0, none⟩ 1 1 [.int .i64 (z : Int), .int .i64 x] (by rfl) (by rfl) (World.news_of_block (cs := #[.int .i64 (z : Int), .int .i64 x]) (t := 159) (fr := (0, 0)) (heap_alloc_new wr _)) (by simp [Value.oneCell']) (by omega) (by unfold maxLen; omega) (by omega) (by have := hb.size; simp; omega) (wr.heap.size + 1) (by simp) ?_; intro gg cp w4 hown4 hgrow hat hlt2)
        rw [HC.out] at hown4
        have hb4 := (hb.alloc hb.size _).grown hgrow (by have := hb.size; simp; omega) (fun j hj => (hown.lt j hj).1)
        go_roundw
        case rel => exact ⟨k + 1, by omega, by go_num, by rw [E1.out]; rfl, by rw [HN.out]; exact hown4, hb4⟩
        case measure => simp [intOf]; omega
    · obtain rfl : k = xs.length := by omega
      go_wp2
      go_ret2
      exact ⟨⟨_, rfl, hown⟩, hb⟩

theorem runsOf_no (a : Option Addr) (cap : Nat) (xs : List Int) (w : World) (h : Ints w a xs) (hl : xs.length ≤ maxLen) (hy : rnOk xs = false) :
    Calls Tryz.prog 135 #[.slice a xs.length cap] w fun e w' => (∃ v, e = .returned (.tuple #[v, .bool false])) ∧ Below w.heap.size w w' := by
  have hl' := hl
  unfold maxLen at hl'
  have CP := placesOk_any (xs.length : Int)
  by_cases h1 : xs.length = 16 ∨ xs.length = 64
  · rw [show (decide ((xs.length : Int) = 16) || decide ((xs.length : Int) = 64)) = true by rcases h1 with h | h <;> rw [h] <;> rfl] at CP
    have h2 : inB 5000 xs = false := by
      unfold rnOk at hy
      rw [show (decide (xs.length = 16) || decide (xs.length = 64)) = true by rcases h1 with h | h <;> rw [h] <;> rfl, Bool.true_and] at hy
      exact hy
    have CA := implAll a cap xs 5000 w h hl (by omega) (by omega)
    rw [h2] at CA
    have HP : Hid (∀ w', Calls Tryz.prog 150 #[.int .i64 (xs.length : Int)] w' (fun e w'' => e = .returned (.bool true) ∧ w'' = w')) := CP
    have HA : Hid (Calls Tryz.prog 119 #[.slice a xs.length cap, .int .i64 5000] w (fun e w' => e = .returned (.bool false) ∧ Below w.heap.size w w')) := CA
    clear CP CA h h1 h2 hy
    generalize xs.length = n at *
    go_enter Tryz.func135, Tryz.ntmps135
    go_wp2_with (first
      | (go_at_call 150; refine (HP.out _).mono ?_; rintro e w1 ⟨rfl, hw⟩; subst w1)
      | (go_at_call 119; refine HA.out.mono ?_; rintro e w2 ⟨rfl, hc2⟩))
    go_ret2
    exact ⟨⟨_, rfl⟩, hc2.alloc hc2.size _⟩
  · rw [show (decide ((xs.length : Int) = 16) || decide ((xs.length : Int) = 64)) = false by simp; omega] at CP
    have HP : Hid (∀ w', Calls Tryz.prog 150 #[.int .i64 (xs.length : Int)] w' (fun e w'' => e = .returned (.bool false) ∧ w'' = w')) := CP
    clear CP h h1 hy
    generalize xs.length = n at *
    go_enter Tryz.func135, Tryz.ntmps135
    go_wp2_with (go_at_call 150; refine (HP.out _).mono ?_; rintro e w1 ⟨rfl, hw⟩; subst w1)
    go_ret2
    exact ⟨⟨_, rfl⟩, (Below.refl _ _).alloc (Nat.le_refl _) _⟩

set_option maxHeartbeats 800000 in
theorem runRow (r : Nat × Int) (w : World) (hr : RunOk r) :
    Calls Tryz.prog 136 #[.agg #[.int .i64 (r.1 : Int), .int .i64 r.2]] w fun e w' => e = .returned (.string (strOfNums (runL r))) ∧ Below w.heap.size w w' := by
  obtain ⟨z, x⟩ := r
  obtain ⟨h1, h2, h3, h4⟩ := hr
  dsimp only at *
  have s0 := seF_in ⟨h2, h3⟩
  have CU : Hid (∀ w', Calls Tryz.prog 52 #[.int .i64 (z : Int)] w' (fun e w'' => e = .returned (.tuple #[.string (ueS (z : Int)), .bool true]) ∧ Below w'.heap.size w' w'')) := fun w' => implUeRow (z : Int) w' (by omega)
  have CS : Hid (∀ w', Calls Tryz.prog 121 #[.int .i64 x] w' (fun e w'' => e = .returned (.tuple #[.string (ueS (seF x)), .bool true]) ∧ Below w'.heap.size w' w'')) := fun w' => implSeRow x w' (by omega)
  have hu := (ueL_len (z : Int) (by omega) (by omega)).1
  have hu2 := (ueL_len (z : Int) (by omega) (by omega)).2.2
  have hs := (ueL_len (seF x) s0.1 (by omega)).1
  have hs2 := (ueL_len (seF x) s0.1 (by omega)).2.2
  have HS : Hid (ueS (z : Int) ++ ueS (seF x) = strOfNums (runL (z, x))) := by
    show _ = _
    rw [ueS_is, ueS_is, strOfNums_app]
    rfl
  have q2 : (ueS (z : Int)).size ≤ 40 := by rw [ueS_is, sizeS]; omega
  have q3 : (ueS (seF x)).size ≤ 40 := by rw [ueS_is, sizeS]; omega
  generalize ueS (z : Int) = U at *
  generalize ueS (seF x) = V at *
  have c1 : ¬ 9223372036854775807 < U.size + V.size := by omega
  have hb0 : Below w.heap.size w (w.alloc (.cells #[.int .i64 (z : Int), .int .i64 x] 159)) := (Below.refl _ _).alloc (Nat.le_refl _) _
  have b0 := Blk.new w #[.int .i64 (z : Int), .int .i64 x] 159
  have y0 := b0.cell 0
  have y1 := b0.cell 1
  clear hu hu2 hs hs2 q2 q3 s0 h1 h2 h3 h4
  go_enter Tryz.func136, Tryz.ntmps136
  go_wp2_with (first
    | (go_at_call 52; refine (CU.out _).mono ?_; rintro e w1 ⟨rfl, hc1⟩; have hb1 := hb0.trans (hc1.mono (by simp)); have x1 : w1.cell? ⟨w.heap.size, 1, none⟩ = some (.int .i64 x) := (hc1.cell (p := ⟨w.heap.size, 1, none⟩) (by simp)).trans y1)
    | (go_at_call 121; refine (CS.out _).mono ?_; rintro e w2 ⟨rfl, hc2⟩; have hb2 := hb1.trans (hc2.mono hb1.size)))
  go_ret
  exact ⟨congrArg (fun t => Ending.returned (Value.string t)) HS.out, hb2⟩

end Go.Proofs.YtnlbigjfnjcldaaGreat
