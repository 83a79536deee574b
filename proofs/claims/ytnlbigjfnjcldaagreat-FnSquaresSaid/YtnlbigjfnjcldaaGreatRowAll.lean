/-
  Plain facts on numbers in signs: the signs of a number, the highest first.
  What the walks of numbers in signs share.
  The walk of spec.l01In, beside what the walks of numbers in signs share.
  The walk of impl.FixRow: a number in signs.
  Plain facts on numbers with signs: how they are folded and opened.
  The walks of impl's countKind.fold and countKind.open, and of impl.FoldSe and impl.OpenSe.
  The walks of spec.FoldSe and spec.OpenSe.
-/
import Derived.WalkKit
import Derived.Laws.BytesArg
import Derived.Laws.OwnMore
import Derived.Test.YtnlbigjfnjcldaaGreatRows
import Derived.WalkSpells
import Derived.StillTactics
import Derived.OwnWalk
import Derived.Deep.RegionHeld3
import Derived.Deep.DrawnRows
import Derived.KernelRfl
import Derived.Test.YtnlbigjfnjcldaaGreatInKit
set_option maxRecDepth 20000
namespace Go.Proofs.YtnlbigjfnjcldaaGreat
open Go.RowKit
set_option linter.unusedVariables false
set_option maxRecDepth 20000

def fixAt (n : Int) (w i : Nat) : Int := n / 2 ^ (w - 1 - i) % 2
def fixL (n : Int) (w : Nat) : List Int := (List.range w).map fun i => 48 + fixAt n w i
theorem fixL_length (n : Int) (w : Nat) : (fixL n w).length = w := by simp [fixL]
theorem fixAt_bd (n : Int) (w i : Nat) : 0 ≤ fixAt n w i ∧ fixAt n w i < 2 := by unfold fixAt; omega
theorem range_set {α : Type} (w k : Nat) (f g : Nat → α) (h : ∀ i, i ≠ k → f i = g i) : ((List.range w).map f).set k (g k) = (List.range w).map g := by
  apply List.ext_getElem?
  intro i
  rw [List.getElem?_set]
  by_cases hi : k = i
  · subst hi
    by_cases hk : k < w
    · simp [hk]
    · simp [hk]
  · by_cases hw : i < w
    · simp [hi, hw, h i (fun e => hi e.symm)]
    · simp [hi, hw]
theorem made_one (v : Value) (n : Nat) (hv : v.cells = #[v]) : (madeCells v.cells (n * 1)).toList = (List.range n).map fun _ => v := by
  rw [hv]
  rw [toList_madeCells_one, Nat.mul_one]
  simp [List.map_const']
theorem half_pow (n : Int) (k : Nat) : n / 2 ^ k / 2 = n / 2 ^ (k + 1) := by
  rw [Int.ediv_ediv_of_nonneg (Int.le_of_lt (Int.pow_pos (by decide)))]; rfl
theorem div_pow_bd (n : Int) (k : Nat) (h0 : 0 ≤ n) : 0 ≤ n / 2 ^ k ∧ n / 2 ^ k ≤ n := by
  have hp : (0 : Int) < 2 ^ k := Int.pow_pos (by decide)
  exact ⟨Int.ediv_nonneg h0 (Int.le_of_lt hp), Int.ediv_le_self _ h0⟩
theorem pow_bd (k : Nat) (h : k ≤ 30) : (1 : Int) ≤ 2 ^ k ∧ (2 : Int) ^ k ≤ 1073741824 := by
  refine ⟨Int.pow_pos (by decide), ?_⟩
  have := Nat.pow_le_pow_right (n := 2) (by decide) h
  have e : ((2 ^ k : Nat) : Int) ≤ ((2 ^ 30 : Nat) : Int) := Int.ofNat_le.2 this
  simpa using e
theorem and1 (n : Int) : bits BinOp.and IntKind.i64 n 1 = n % 2 := by
  have h1 : (BitVec.ofInt 64 1).toNat = 2 ^ 1 - 1 := by decide
  have key : (BitVec.ofInt 64 n &&& BitVec.ofInt 64 1).toNat = (n % ((2 ^ 64 : Nat) : Int)).toNat % 2 ^ 1 := by
    rw [BitVec.toNat_and, BitVec.toNat_ofInt, h1, Nat.and_two_pow_sub_one_eq_mod]
  show IntKind.i64.wrap ((BitVec.ofInt 64 n &&& BitVec.ofInt 64 1).toNat : Nat) = n % 2
  rw [key, IntKind.wrap_i64]
  omega
end Go.Proofs.YtnlbigjfnjcldaaGreat

namespace Go.Proofs.YtnlbigjfnjcldaaGreat
open Go.RowKit
set_option linter.unusedVariables false

theorem infoF : (Tryz.prog.info? 5).map (fun i => (i.zero, i.size, i.bytes)) = some (some (.int .u8 0), 1, 1) := by kernel_rfl
theorem convF {w : World} {B n : Nat} {v : Value} {zs : List Int} (h : w.ownsRow B 5 1 v n (zs.map (Value.int .u8))) :
    (convert 22 9 v).run Tryz.prog w = .ok (.string (strOfNums zs)) w := by
  have hl := h.1
  simp at hl
  rcases h.2 with ⟨rfl, rfl⟩ | ⟨g, cap, cur, rfl, _, hg, hn, _, hsz, htake⟩
  · rw [run_convert_bytes_nil w 22 5 Tryz.underlying22 Tryz.underlying5 0 0 9 Tryz.underlying9]
    have : zs = [] := List.eq_nil_of_length_eq_zero hl
    subst this; rfl
  · refine run_convert_bytes_arg w 22 5 Tryz.underlying22 Tryz.underlying5 g 0 n cap zs hl (fun i hi => ?_) 9 Tryz.underlying9
    rw [Nat.zero_add, cell_of_row w g i cur 5 (0, 0) hg]
    have hi' : i < zs.length := by omega
    have e1 : (cur.toList.take (n * 1))[i]? = (zs.map (Value.int .u8))[i]? := by rw [htake]
    rw [List.getElem?_take, if_pos (by omega)] at e1
    simp [List.getElem?_eq_getElem hi'] at e1 ⊢
    exact e1

/-- The cells when the places at and behind j (the first k) are filled. -/
def fixUp (n : Int) (w k i : Nat) : Int := if i < k then 48 + fixAt n w i else 0
def fixDn (n : Int) (w k i : Nat) : Int := if k ≤ i then 48 + fixAt n w i else 0
theorem fixUp_full (n : Int) (w : Nat) : (List.range w).map (fixUp n w w) = fixL n w := by
  unfold fixL; apply List.map_congr_left; intro i hi; simp [fixUp, List.mem_range.1 hi]
theorem fixDn_full (n : Int) (w : Nat) : (List.range w).map (fixDn n w 0) = fixL n w := by
  unfold fixL; apply List.map_congr_left; intro i hi; simp [fixDn]
theorem fixUp_set (n : Int) (w k : Nat) : (((List.range w).map (fixUp n w k)).map (Value.int .u8)).set k (.int .u8 (48 + fixAt n w k)) = ((List.range w).map (fixUp n w (k + 1))).map (Value.int .u8) := by
  rw [List.map_map, List.map_map]
  have e : Value.int .u8 (48 + fixAt n w k) = (Value.int .u8 ∘ fixUp n w (k + 1)) k := by simp [fixUp]
  rw [e]
  refine range_set w k _ _ (fun i hi => ?_)
  simp only [Function.comp, fixUp]
  by_cases h : i < k
  · simp [h, Nat.lt_succ_of_lt h]
  · simp [h, show ¬ i < k + 1 by omega]
theorem fixDn_set (n : Int) (w k : Nat) : (((List.range w).map (fixDn n w (k + 1))).map (Value.int .u8)).set k (.int .u8 (48 + fixAt n w k)) = ((List.range w).map (fixDn n w k)).map (Value.int .u8) := by
  rw [List.map_map, List.map_map]
  have e : Value.int .u8 (48 + fixAt n w k) = (Value.int .u8 ∘ fixDn n w k) k := by simp [fixDn]
  rw [e]
  refine range_set w k _ _ (fun i hi => ?_)
  simp only [Function.comp, fixDn]
  by_cases h : k + 1 ≤ i
  · simp [h, show k ≤ i by omega]
  · simp [h, show ¬ k ≤ i by omega]
theorem fixUp_zero (n : Int) (w : Nat) : (madeCells (Value.int .u8 0).cells (w * 1)).toList = ((List.range w).map (fixUp n w 0)).map (Value.int .u8) := by
  rw [made_one _ _ rfl, List.map_map]; apply List.map_congr_left; intro i hi; simp [fixUp]
theorem fixDn_zero (n : Int) (w : Nat) : (madeCells (Value.int .u8 0).cells (w * 1)).toList = ((List.range w).map (fixDn n w w)).map (Value.int .u8) := by
  rw [made_one _ _ rfl, List.map_map]; apply List.map_congr_left; intro i hi
  have := List.mem_range.1 hi
  simp [fixDn, show ¬ w ≤ i by omega]
end Go.Proofs.YtnlbigjfnjcldaaGreat



namespace Go.Proofs.YtnlbigjfnjcldaaGreat
open Go.RowKit
set_option linter.unusedVariables false

set_option maxHeartbeats 1000000 in
theorem implFix (n : Int) (k : Nat) (w : World) (h0 : 0 ≤ n) (hk : (k : Int) ≤ 30) (h1 : n < 2 ^ k) :
    Calls Tryz.prog 73 #[.int .i64 n, .int .i64 k] w fun e w' => e = .returned (.tuple #[.string (strOfNums (fixL n k)), .bool true]) ∧ Below w.heap.size w w' := by
  obtain ⟨i0, hi0, hz0, hz1, hz2⟩ := info_parts infoF
  obtain ⟨p, hp⟩ : ∃ p : Int, (2 : Int) ^ k = p := ⟨_, rfl⟩
  have hpb := pow_bd k (by omega)
  rw [hp] at hpb h1
  obtain ⟨hp0, hp1⟩ := hpb
  go_enter Tryz.func73, Tryz.ntmps73
  go_wp2_with (at_make; refine wpList_make_full _ (by rfl) _ _ 22 (by rfl) w.heap.size 5 i0 (.int .u8 0) 1 Tryz.underlying22 hi0 hz0 hz1 .i64 .i64 _ _ k (by rfl) (by rfl) (by rfl) (by rfl) (by rw [hz2]; omega) (by unfold maxLen; omega) (Nat.le_refl _) ?_; intro w1 hown0 hgrow0)
  have hb0 : Below w.heap.size w w1 := (Below.refl _ _).grown hgrow0 (Nat.le_refl _) (fun j hj => by cases hj)
  clear hgrow0
  rw [fixUp_zero n k] at hown0
  go_loopw [28] (fun i wr => ∃ j : Nat, j ≤ k ∧ i = .int .i64 (j : Int) ∧ wr.ownsRow w.heap.size 5 1 (.slice (some ⟨w.heap.size, 0, none⟩) k k) k (((List.range k).map (fixUp n k j)).map (Value.int .u8)) ∧ Below w.heap.size w wr)
    (fun i _ => k - (intOf i).toNat)
  case atStart => exact ⟨0, Nat.zero_le _, rfl, hown0, hb0⟩
  case round =>
    obtain ⟨j, hj, rfl, hown, hb⟩ := hrel
    clear hown0 hb0
    by_cases hlt : j < k
    · obtain ⟨m, hm⟩ : ∃ m, n / 2 ^ (k - 1 - j) = m := ⟨_, rfl⟩
      have hbd := div_pow_bd n (k - 1 - j) h0
      rw [hm] at hbd
      obtain ⟨hm0, hm1⟩ := hbd
      have HM : Hid (48 + m % 2 = 48 + fixAt n k j) := by
        show _ = _
        unfold fixAt; rw [hm]
      have ha := and1 m
      have hq : (j : Int) < (k : Int) := by omega
      have hc := hown.cellAt j (by omega)
      have hfz := hown.frozenAt j
      have hc' : wr.cell? ⟨w.heap.size, j, none⟩ = some (.int .u8 (fixUp n k j j)) := by rw [hc]; simp [hlt]
      have hst := hown.stored j (.int .u8 (48 + m % 2))
      clear hc
      have hbs := hb.grown hst.2 hb.size (fun j hj => by cases hj; exact Nat.le_refl _)
      have hos := hst.1
      rw [HM.out, fixUp_set] at hos
      go_wp2
      go_roundw
      case rel => exact ⟨j + 1, by omega, by go_num, by rw [HM.out]; exact hos, hbs⟩
      case measure => simp [intOf]; omega
    · obtain rfl : j = k := by omega
      rw [fixUp_full] at hown
      have hconv := convF hown
      go_wp2
      go_ret2
      exact ⟨rfl, hb⟩

set_option maxHeartbeats 1000000 in
theorem implFix_no (n k : Int) (w : World) (b0 : -9223372036854775808 ≤ n ∧ n ≤ 9223372036854775807) (b1 : -9223372036854775808 ≤ k ∧ k ≤ 9223372036854775807) (h : k < 0 ∨ 30 < k ∨ n < 0 ∨ 2 ^ k.toNat ≤ n) :
    Calls Tryz.prog 73 #[.int .i64 n, .int .i64 k] w fun e w' => e = .returned (.tuple #[.string ⟨#[]⟩, .bool false]) ∧ w' = w := by
  by_cases h1 : k < 0
  · go_enter Tryz.func73, Tryz.ntmps73
    go_wp2
    go_ret2
    exact ⟨rfl, rfl⟩
  by_cases h2 : 30 < k
  · go_enter Tryz.func73, Tryz.ntmps73
    go_wp2
    go_ret2
    exact ⟨rfl, rfl⟩
  by_cases h3 : n < 0
  · go_enter Tryz.func73, Tryz.ntmps73
    go_wp2
    go_ret2
    exact ⟨rfl, rfl⟩
  obtain ⟨p, hp⟩ : ∃ p : Int, (2 : Int) ^ k.toNat = p := ⟨_, rfl⟩
  have hpb := pow_bd k.toNat (by omega)
  rw [hp] at hpb h
  obtain ⟨hp0, hp1⟩ := hpb
  have h4 : p ≤ n := by omega
  clear h
  go_enter Tryz.func73, Tryz.ntmps73
  go_wp2
  go_ret2
  exact ⟨rfl, rfl⟩
end Go.Proofs.YtnlbigjfnjcldaaGreat

namespace Go.Proofs.YtnlbigjfnjcldaaGreat
set_option linter.unusedVariables false

def seF (n : Int) : Int := if 0 < n then 2 * n - 1 else -2 * n
def seO (u : Int) : Int := if u % 2 = 1 then (u + 1) / 2 else -(u / 2)
theorem seF_pos (n : Int) (h : 0 < n) : seF n = 2 * n - 1 := by unfold seF; rw [if_pos h]
theorem seF_neg (n : Int) (h : ¬ 0 < n) : seF n = -2 * n := by unfold seF; rw [if_neg h]
theorem seO_odd (u : Int) (h : u % 2 = 1) : seO u = (u + 1) / 2 := by unfold seO; rw [if_pos h]
theorem seO_even (u : Int) (h : ¬ u % 2 = 1) : seO u = -(u / 2) := by unfold seO; rw [if_neg h]
theorem seF_bd (n : Int) (h : -500000 ≤ n ∧ n ≤ 500000) : 0 ≤ seF n ∧ seF n ≤ 1000000 := by
  unfold seF; split <;> omega
theorem seO_seF (n : Int) : seO (seF n) = n := by
  unfold seF seO; split <;> split <;> omega
end Go.Proofs.YtnlbigjfnjcldaaGreat

namespace Go.Proofs.YtnlbigjfnjcldaaGreat
open Go.RowKit
set_option linter.unusedVariables false

theorem implFold (n : Int) (w : World) (h : -500000 ≤ n ∧ n ≤ 500000) :
    Calls Tryz.prog 78 #[.int .i64 1, .int .i64 n] w fun e w' => e = .returned (.tuple #[.int .i64 (seF n), .bool true]) ∧ w' = w := by
  obtain ⟨h0, h1⟩ := h
  by_cases c : 0 < n
  · have HF : Hid (seF n = 2 * n - 1) := seF_pos n c
    go_enter Tryz.func78, Tryz.ntmps78
    go_wp2
    go_ret2
    exact ⟨by rw [HF.out]; rfl, rfl⟩
  · have HF : Hid (seF n = -2 * n) := seF_neg n c
    go_enter Tryz.func78, Tryz.ntmps78
    go_wp2
    go_ret2
    exact ⟨by rw [HF.out]; rfl, rfl⟩
theorem implFold_no (n : Int) (w : World) (h : n < -500000 ∨ 500000 < n) :
    Calls Tryz.prog 78 #[.int .i64 1, .int .i64 n] w fun e w' => e = .returned (.tuple #[.int .i64 0, .bool false]) ∧ w' = w := by
  rcases h with c | c
  all_goals
    go_enter Tryz.func78, Tryz.ntmps78
    go_wp2
    go_ret2
    exact ⟨rfl, rfl⟩
theorem implPlain (n : Int) (w : World) (h : 0 ≤ n ∧ n ≤ 1000000) :
    Calls Tryz.prog 78 #[.int .i64 0, .int .i64 n] w fun e w' => e = .returned (.tuple #[.int .i64 n, .bool true]) ∧ w' = w := by
  obtain ⟨h0, h1⟩ := h
  go_enter Tryz.func78, Tryz.ntmps78
  go_wp2
  go_ret2
  exact ⟨rfl, rfl⟩
theorem implPlain_no (n : Int) (w : World) (h : n < 0 ∨ 1000000 < n) :
    Calls Tryz.prog 78 #[.int .i64 0, .int .i64 n] w fun e w' => e = .returned (.tuple #[.int .i64 0, .bool false]) ∧ w' = w := by
  rcases h with c | c
  all_goals
    go_enter Tryz.func78, Tryz.ntmps78
    go_wp2
    go_ret2
    exact ⟨rfl, rfl⟩

theorem implOpen (u : Int) (w : World) (h : 0 ≤ u ∧ u ≤ 1000000) :
    Calls Tryz.prog 77 #[.int .i64 1, .int .i64 u] w fun e w' => e = .returned (.tuple #[.int .i64 (seO u), .bool true]) ∧ w' = w := by
  obtain ⟨h0, h1⟩ := h
  by_cases c : u % 2 = 1
  · have HF : Hid (seO u = (u + 1) / 2) := seO_odd u c
    go_enter Tryz.func77, Tryz.ntmps77
    go_wp2
    go_ret2
    exact ⟨by rw [HF.out]; rfl, rfl⟩
  · obtain ⟨v, hv⟩ : ∃ v, u = 2 * v := ⟨u / 2, by omega⟩
    have HF : Hid (seO u = -v) := by show _ = _; rw [seO_even u c]; omega
    have c' : (u % 2 == 1) = false := by simpa using c
    go_enter Tryz.func77, Tryz.ntmps77
    go_wp2
    go_ret2
    exact ⟨by rw [HF.out]; rfl, rfl⟩
theorem implOpen_no (u : Int) (w : World) (h : u < 0 ∨ 1000000 < u) :
    Calls Tryz.prog 77 #[.int .i64 1, .int .i64 u] w fun e w' => e = .returned (.tuple #[.int .i64 0, .bool false]) ∧ w' = w := by
  rcases h with c | c
  all_goals
    go_enter Tryz.func77, Tryz.ntmps77
    go_wp2
    go_ret2
    exact ⟨rfl, rfl⟩
theorem implSame (u : Int) (w : World) (h : 0 ≤ u ∧ u ≤ 1000000) :
    Calls Tryz.prog 77 #[.int .i64 0, .int .i64 u] w fun e w' => e = .returned (.tuple #[.int .i64 u, .bool true]) ∧ w' = w := by
  obtain ⟨h0, h1⟩ := h
  go_enter Tryz.func77, Tryz.ntmps77
  go_wp2
  go_ret2
  exact ⟨rfl, rfl⟩
theorem implSame_no (u : Int) (w : World) (h : u < 0 ∨ 1000000 < u) :
    Calls Tryz.prog 77 #[.int .i64 0, .int .i64 u] w fun e w' => e = .returned (.tuple #[.int .i64 0, .bool false]) ∧ w' = w := by
  rcases h with c | c
  all_goals
    go_enter Tryz.func77, Tryz.ntmps77
    go_wp2
    go_ret2
    exact ⟨rfl, rfl⟩

end Go.Proofs.YtnlbigjfnjcldaaGreat

namespace Go.Proofs.YtnlbigjfnjcldaaGreat
open Go.RowKit
set_option linter.unusedVariables false

theorem specFold (n : Int) (w : World) (h : -500000 ≤ n ∧ n ≤ 500000) :
    Calls Tryz.prog 67 #[.int .i64 n] w fun e w' => e = .returned (.tuple #[.int .i64 (seF n), .bool true]) ∧ w' = w := by
  have hin : (decide ((-500000 : Int) ≤ n) && decide (n ≤ 500000)) = true := by simp; omega
  obtain ⟨h0, h1⟩ := h
  by_cases c : 0 < n
  · have HF : Hid (seF n = 2 * n - 1) := seF_pos n c
    go_enter Tryz.func67, Tryz.ntmps67
    go_wp2_with (go_at_call 43; refine (in_any _ _ _ _).mono ?_; rintro e w1 ⟨rfl, hw⟩; subst w1)
    go_ret2
    exact ⟨by rw [HF.out]; rfl, rfl⟩
  · have HF : Hid (seF n = -2 * n) := seF_neg n c
    go_enter Tryz.func67, Tryz.ntmps67
    go_wp2_with (go_at_call 43; refine (in_any _ _ _ _).mono ?_; rintro e w1 ⟨rfl, hw⟩; subst w1)
    go_ret2
    exact ⟨by rw [HF.out]; rfl, rfl⟩
theorem specFold_no (n : Int) (w : World) (h : n < -500000 ∨ 500000 < n) :
    Calls Tryz.prog 67 #[.int .i64 n] w fun e w' => e = .returned (.tuple #[.int .i64 0, .bool false]) ∧ w' = w := by
  have hin : (decide ((-500000 : Int) ≤ n) && decide (n ≤ 500000)) = false := by simp; omega
  clear h
  go_enter Tryz.func67, Tryz.ntmps67
  go_wp2_with (go_at_call 43; refine (in_any _ _ _ _).mono ?_; rintro e w1 ⟨rfl, hw⟩; subst w1)
  go_ret2
  exact ⟨rfl, rfl⟩
theorem specOpen (u : Int) (w : World) (h : 0 ≤ u ∧ u ≤ 1000000) :
    Calls Tryz.prog 70 #[.int .i64 u] w fun e w' => e = .returned (.tuple #[.int .i64 (seO u), .bool true]) ∧ w' = w := by
  have hin : (decide ((0 : Int) ≤ u) && decide (u ≤ 1000000)) = true := by simp; omega
  obtain ⟨h0, h1⟩ := h
  by_cases c : u % 2 = 1
  · have HF : Hid (seO u = (u + 1) / 2) := seO_odd u c
    go_enter Tryz.func70, Tryz.ntmps70
    go_wp2_with (go_at_call 43; refine (in_any _ _ _ _).mono ?_; rintro e w1 ⟨rfl, hw⟩; subst w1)
    go_ret2
    exact ⟨by rw [HF.out]; rfl, rfl⟩
  · have HF : Hid (seO u = -(u / 2)) := seO_even u c
    have c' : (u % 2 == 1) = false := by simpa using c
    go_enter Tryz.func70, Tryz.ntmps70
    go_wp2_with (go_at_call 43; refine (in_any _ _ _ _).mono ?_; rintro e w1 ⟨rfl, hw⟩; subst w1)
    go_ret2
    exact ⟨by rw [HF.out]; rfl, rfl⟩
theorem specOpen_no (u : Int) (w : World) (h : u < 0 ∨ 1000000 < u) :
    Calls Tryz.prog 70 #[.int .i64 u] w fun e w' => e = .returned (.tuple #[.int .i64 0, .bool false]) ∧ w' = w := by
  have hin : (decide ((0 : Int) ≤ u) && decide (u ≤ 1000000)) = false := by simp; omega
  clear h
  go_enter Tryz.func70, Tryz.ntmps70
  go_wp2_with (go_at_call 43; refine (in_any _ _ _ _).mono ?_; rintro e w1 ⟨rfl, hw⟩; subst w1)
  go_ret2
  exact ⟨rfl, rfl⟩
end Go.Proofs.YtnlbigjfnjcldaaGreat
