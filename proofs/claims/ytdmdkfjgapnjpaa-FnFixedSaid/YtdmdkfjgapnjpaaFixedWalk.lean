/-
  The walk of the law laws.FnFixed: a drawn number of a drawn width stands where it was put in a row.
-/
import Derived.Test.YtdmdkfjgapnjpaaCodeKit
import Derived.Test.YtdmdkfjgapnjpaaDrawPlaces
import Derived.Test.YtdmdkfjgapnjpaaNumKit
import Derived.Test.YtdmdkfjgapnjpaaReadImpl
import Derived.Test.YtdmdkfjgapnjpaaFixImpl
namespace Go.Proofs.Ytdmdkfjgapnjpaa
open Go.RowKit
set_option linter.unusedVariables false

set_option maxHeartbeats 1600000 in
theorem fnFixed_walk (a : Option Addr) (len cap : Nat) (w : World) (hc : CodeIn w a len cap) :
    Calls Try.prog 3 #[.slice a len cap] w fun e w' => e = .returned (.bool true) ∧ Below w.heap.size w w' := by
  have HC : Hid (CodeRow w w.heap.size a len) := hc.2.2
  have hlen : (len : Int) ≤ 1048576 := hc.1
  clear hc
  go_enter Try.func3, Try.ntmps3
  go_wp2_with fail
  refine (big_any a len cap w hlen).mono ?_
  rintro e w0 ⟨rfl, hw⟩
  subst w0
  go_wp2_with fail
  refine (drawPlaces_any a len cap w.heap.size _ HC.out (Nat.le_refl _)).mono ?_
  rintro e w1 ⟨g, c, l, rfl, hl, hin, hown, hb1⟩
  have q0 := getD_in hl (show 0 < 12 by omega) hin
  have q1 := getD_in hl (show 1 < 12 by omega) hin
  have q2 := getD_in hl (show 2 < 12 by omega) hin
  have d0 := cellI hown hl 0 (by omega)
  have d1 := cellI hown hl 1 (by omega)
  have d2 := cellI hown hl 2 (by omega)
  generalize l.getD 0 0 = p0 at *
  generalize l.getD 1 0 = p1 at *
  generalize l.getD 2 0 = p2 at *
  have hgl : g < w1.heap.size := World.block_lt_of_cell? w1 _ d0
  have hbs1 := hb1.size
  have HC1 : Hid (CodeRow w1 w.heap.size a len) := HC.out.below hb1
  clear hin hown hl
  go_wp2_with fail
  refine (drawRow_any a len cap w.heap.size _ HC1.out hbs1).mono ?_
  rintro e w2 ⟨lt, rfl, hlt, hsg, hb2⟩
  have hts : (strOfNums lt).size ≤ 60 := by rw [strOfNums_size]; omega
  have HSG : Hid (Signs (nums (strOfNums lt))) := by
    show Signs _
    rw [nums_of lt (Signs.bd hsg)]; exact hsg
  clear hsg
  generalize strOfNums lt = t at *
  have e0 : w2.cell? ⟨g, 0, none⟩ = some (.int .i64 p0) := (hb2.cell (p := ⟨g, 0, none⟩) hgl).trans d0
  have e1 : w2.cell? ⟨g, 1, none⟩ = some (.int .i64 p1) := (hb2.cell (p := ⟨g, 1, none⟩) hgl).trans d1
  have e2 : w2.cell? ⟨g, 2, none⟩ = some (.int .i64 p2) := (hb2.cell (p := ⟨g, 2, none⟩) hgl).trans d2
  have hb12 : Below w.heap.size w w2 := hb1.trans (hb2.mono hbs1)
  clear d0 d1 d2
  obtain ⟨k, hk⟩ : ∃ k : Nat, p0 % 31 = (k : Int) := ⟨(p0 % 31).toNat, by omega⟩
  have hk30 : (k : Int) ≤ 30 := by omega
  obtain ⟨pw, hpw⟩ : ∃ pw : Int, (2 : Int) ^ k = pw := ⟨_, rfl⟩
  have hpb := pow_bd k (by omega)
  rw [hpw] at hpb
  go_wp2_with fail
  go_quiet (fail)
  rw [hk]
  clear hk
  have hn0 : 0 ≤ (p1 * 10000 + p2) % pw := Int.emod_nonneg _ (by omega)
  have hn1 : (p1 * 10000 + p2) % pw < pw := Int.emod_lt_of_pos _ (by omega)
  generalize (p1 * 10000 + p2) % pw = n at *
  have HN : Hid (n < 2 ^ k) := by show _ < _; rw [hpw]; exact hn1
  clear e0 e1 e2 hpw
  have hb3 : Below w.heap.size w (w2.drewN nq) := below_drewN hb12 nq
  go_wp2_with fail
  refine (implFix n k _ hn0 hk30 HN.out).mono ?_
  rintro e w4 ⟨rfl, hb4⟩
  have hz : (strOfNums (fixL n k)).size = k := by rw [strOfNums_size, fixL_length]
  have HR : Hid (∀ W, Calls Try.prog 11 #[.string (t ++ strOfNums (fixL n k) ++ ⟨#[48, 49]⟩), .int .i64 t.size, .int .i64 k] W fun e w' => e = .returned (.tuple #[.int .i64 n, .int .i64 ((t.size : Int) + (k : Int)), .bool true]) ∧ w' = W) := fun W => by
    have hsz : (t ++ strOfNums (fixL n k) ++ (⟨#[48, 49]⟩ : ByteArray)).size = t.size + k + 2 := by rw [ByteArray.size_append, ByteArray.size_append, hz]; rfl
    have hs : Signs (nums (t ++ strOfNums (fixL n k) ++ (⟨#[48, 49]⟩ : ByteArray))) := by
      rw [nums_append, nums_append, nums_of _ (fixL_signs n k).bd]
      refine (HSG.out.append (fixL_signs n k)).append ?_
      intro x hx
      have : x ∈ [(48 : Int), 49] := hx
      simpa using this
    have h := implRead (t ++ strOfNums (fixL n k) ++ ⟨#[48, 49]⟩) t.size k W (rowOkB_of _ (by rw [hsz]; omega) hs) hk30 (by rw [hsz]; omega)
    rw [readN_put t ⟨#[48, 49]⟩ k n hn0 HN.out] at h
    exact h
  generalize strOfNums (fixL n k) = s at *
  go_wp2_with fail
  refine (HR.out _).mono ?_
  rintro e w5 ⟨rfl, hw5⟩
  subst w5
  have z1 : ((n : Int) == n) = true := by simp
  have z2 : ((s.size : Int) == (k : Int)) = true := by rw [hz]; simp
  have z3 : (((t.size : Int) + (k : Int)) == ((t.size : Int) + (k : Int))) = true := by simp
  go_wp2
  go_ret
  exact ⟨by simp, hb3.trans (hb4.mono hb3.size)⟩
end Go.Proofs.Ytdmdkfjgapnjpaa
