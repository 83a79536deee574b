/-
  What was put is read: a head from its row, with what stands behind it; a row from its unit.
-/
import Derived.Test.YtdokmojifkggjaaDoorMHeadRows
import Derived.Test.YtdokmojifkggjaaDoorUnitTwo
import Derived.Test.YtdokmojifkggjaaDoorMSetMath
namespace Go.Proofs.YtdokmojifkggjaaDoor
open Go.RowKit
set_option linter.unusedVariables false
set_option maxRecDepth 20000

theorem ueS_signsH (n : Int) : Signs (nums (ueS n)) := by rw [ueS_nums]; exact ueL_signs n
theorem headS_signs (m : Nat) (t f d : Int) : Signs (nums (headS m t f d)) := by
  unfold headS
  rw [nums_append, nums_append, nums_of _ (fixL_signs f m).bd]
  exact ((ueS_signsH t).append (fixL_signs f m)).append (ueS_signsH _)

/-- A head that was put is read by impl.ReadHead. -/
theorem readHead_put (l b : Int) (a1 a2 : Option Addr) (c1 c2 : Nat) (xs ys : List Int) (q : Int) (g x c : Bool) (t f k : Int) (A : ByteArray) (w : World) (h : SetIn w a1 a2 xs ys) (hh : headB l b xs ys q g x t f k = true)
    (hz : (headS b.toNat t f (k - q) ++ A).size ≤ 400000) (hr : Signs (nums (headS b.toNat t f (k - q) ++ A))) :
    Calls Tryd.prog 13 #[.agg #[.int .i64 l, .int .i64 b, .slice a1 xs.length c1, .slice a2 ys.length c2], .agg #[.int .i64 q, .bool g, .bool x, .bool c], .string (headS b.toNat t f (k - q) ++ A)] w fun e w' => e = .returned (.tuple #[.agg #[.int .i64 t, .int .i64 f, .int .i64 k], .int .i64 ((headS b.toNat t f (k - q)).size : Int), .bool true]) ∧ Below w.heap.size w w' := by
  obtain ⟨hp, ⟨t0, t1⟩, ⟨f0, f1⟩, k0, k1⟩ := headB_true hh
  obtain ⟨_, _, y0, y1⟩ := seqB_true (headB_seq hh)
  obtain ⟨q0, q1⟩ := parB_bd hp
  have t2 := tilesI_bd l b xs ys
  have hok := rowOkB_of _ hz hr
  obtain ⟨m, hm⟩ : ∃ m : Nat, b = m := ⟨b.toNat, by omega⟩
  have em : b.toNat = m := by omega
  rw [em] at hz hr f1 hok ⊢
  have sb := seF_bd (k - q) ⟨by omega, by omega⟩
  have u1 := ueS_size t t0 (by omega)
  have u2 := ueS_size (seF (k - q)) sb.1 sb.2
  have w1 := (wid_pow (t + 1) (by omega) (by omega)).1
  have w2 := (wid_pow (seF (k - q) + 1) (by omega) (by omega)).1
  have zf : (strOfNums (fixL f m)).size = m := by rw [strOfNums_size, fixL_length]
  have zh : (headS m t f (k - q)).size = (ueS t).size + m + (ueS (seF (k - q))).size := by unfold headS; rw [ByteArray.size_append, ByteArray.size_append, zf]
  have zR : (headS m t f (k - q) ++ A).size = (ueS t).size + m + (ueS (seF (k - q))).size + A.size := by rw [ByteArray.size_append, zh]
  -- the three numbers
  have C1 : Counted (headS m t f (k - q) ++ A) 0 (wid (t + 1) - 1) t := by
    have := counted_put ByteArray.empty (strOfNums (fixL f m) ++ ueS (seF (k - q)) ++ A) t t0 (by omega)
    rw [show (ByteArray.empty).size = 0 from rfl] at this
    rw [show headS m t f (k - q) ++ A = ByteArray.empty ++ ueS t ++ (strOfNums (fixL f m) ++ ueS (seF (k - q)) ++ A) by unfold headS; simp [ByteArray.append_assoc]]
    exact this
  have C2 : readN (headS m t f (k - q) ++ A) (ueS t).size m = f := by
    have := readN_put (ueS t) (ueS (seF (k - q)) ++ A) m f f0 f1
    rw [show headS m t f (k - q) ++ A = ueS t ++ strOfNums (fixL f m) ++ (ueS (seF (k - q)) ++ A) by unfold headS; simp [ByteArray.append_assoc]]
    exact this
  have C3 : Counted (headS m t f (k - q) ++ A) ((ueS t).size + m) (wid (seF (k - q) + 1) - 1) (seF (k - q)) := by
    have := counted_put (ueS t ++ strOfNums (fixL f m)) A (seF (k - q)) sb.1 sb.2
    rw [ByteArray.size_append, zf] at this
    exact this
  obtain ⟨n1, _, e1, o1, I1, _, _, _, _, D1⟩ := cnt_letters (headS m t f (k - q) ++ A) 0 hok (Nat.zero_le _)
  obtain ⟨rfl, _, rfl, rfl⟩ := D1 _ _ C1
  have e1 : ((0 : Nat) : Int) + ((wid (n1 + 1) - 1 : Nat) : Int) + (((wid (n1 + 1) - 1 : Nat) : Int) + 1) = ((ueS n1).size : Int) := by rw [u1]; omega
  rw [e1] at I1
  obtain ⟨n2, e2, o2, I2, _, _, D2⟩ := fix_letters (headS m n1 f (k - q) ++ A) (ueS n1).size b hok (by rw [zR]; omega)
  obtain ⟨rfl, rfl, rfl⟩ := D2 m hm (by omega) (by rw [zR]; omega)
  obtain ⟨_, n3, e3, o3, _, _, I3, _, _, D3⟩ := cnt_letters (headS m n1 f (k - q) ++ A) ((ueS n1).size + m) hok (by rw [zR]; omega)
  obtain ⟨_, rfl, rfl, rfl⟩ := D3 _ _ C3
  rw [Int.natCast_add] at I3
  have es : seO (seF (k - q)) = k - q := seO_seF (k - q)
  have ek : wrap64 (q + seO (seF (k - q))) = k := by rw [es, IntWalk.wrap64_in _ ⟨by omega, by omega⟩]; omega
  have := implReadHead_any l b a1 a2 c1 c2 xs ys q g x c (headS m n1 f (k - q) ++ A) w h hok n1 _ k _ (fun w'' => implHeadAt_yes l b _ _ q g x c _ w'' n1 _ I1 _ _ I2 _ _ I3 k ek)
  rw [C2, hh] at this
  have e3 : (((ueS n1).size + m : Nat) : Int) + ((wid (seF (k - q) + 1) - 1 : Nat) : Int) + (((wid (seF (k - q) + 1) - 1 : Nat) : Int) + 1) = ((headS m n1 f (k - q)).size : Int) := by rw [zh, u2]; omega
  rw [← e3]
  exact this

/-- A row that was put is read by impl.UnitIn. -/
theorem unit_size (k : Int) (s : ByteArray) : (unitS k s).size = 1 + (strOfNums (byL s)).size := by
  unfold unitS; rw [ByteArray.size_append, strOfNums_size]; rfl
theorem unit_first (k : Int) (s : ByteArray) (h0 : 0 ≤ k) (h1 : k ≤ 255) : bAt (unitS k s) 0 = k := by
  rw [bAt_nums]
  unfold unitS
  rw [nums_append, nums_of [k] (by simp; omega)]
  rfl
theorem unit_rest (k : Int) (s : ByteArray) : unitT (unitS k s) = byT s := by
  show (unitS k s).extract 1 (unitS k s).size = strOfNums (byL s)
  unfold unitS
  have e : (strOfNums [k]).size = 1 := by rw [strOfNums_size]; rfl
  rw [ByteArray.size_append, e]
  exact ByteArray.extract_append_eq_right e.symm (by rw [e])
theorem unitIn_put (k : Int) (s : ByteArray) (w : World) (hk : kindB k = true) (hr : rowOkB s = true) :
    Calls Tryd.prog 12 #[.string (unitS k s)] w fun e w' => e = .returned (.tuple #[.int .i64 k, .string s, .bool true]) ∧ Below w.heap.size w w' := by
  have hk1 : 1 ≤ k ∧ k ≤ 8 := by rcases kindB_cases hk with rfl | rfl | rfl | rfl <;> omega
  have hrow := (rowOkB_true s hr).2
  have h4 := (rowOkB_true s hr).1
  have hsz := byL_size s hr
  have := implUnitIn_any (unitS k s) w (by rw [unit_size]; omega) (by rw [unit_size]; omega) s true (fun w' => by
    rw [unit_rest]
    have := implTxt (byT s) w' (byT_yes s hrow h4)
    rwa [byT_back s hrow] at this)
  rw [unit_first k s (by omega) (by omega), hk] at this
  exact this
end Go.Proofs.YtdokmojifkggjaaDoor
