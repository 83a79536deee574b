/-
  The walk of the law laws.FnSigned: a drawn number with its sign comes back from the row that it was put into, as long as is told; what is folded opens, and a lesser one is no longer.
-/
import Derived.Test.YtppafgkdilpkgaaCodeKit
import Derived.Test.YtppafgkdilpkgaaDrawPlaces
import Derived.Test.YtppafgkdilpkgaaCountTops
import Derived.Test.YtppafgkdilpkgaaCountReads
namespace Go.Proofs.Ytppafgkdilpkgaa
open Go.RowKit
set_option linter.unusedVariables false

theorem readSe_put (p : ByteArray) (n : Int) (W : World) (hp : Signs (nums p)) (hs : p.size ≤ 300000) (h : -500000 ≤ n ∧ n ≤ 500000) :
    Calls Try.prog 20 #[.string (p ++ ueS (seF n)), .int .i64 p.size] W fun e w' => e = .returned (.tuple #[.int .i64 n, .int .i64 ((p.size : Int) + ((ueS (seF n)).size : Int)), .bool true]) ∧ w' = W := by
  obtain ⟨h0, h1⟩ := seF_bd n h
  have hc := counted_put p ⟨#[]⟩ (seF n) h0 h1
  have e2 : ∀ s : ByteArray, s ++ (⟨#[]⟩ : ByteArray) = s := fun s => by apply ByteArray.ext; rw [ByteArray.data_append]; simp
  rw [e2] at hc
  obtain ⟨l1, l20, _, _⟩ := wid_pow (seF n + 1) (by omega) (by omega)
  have hz := ueS_size (seF n) h0 h1
  have hsz : (p ++ ueS (seF n)).size = p.size + (ueS (seF n)).size := by rw [ByteArray.size_append]
  have hsg : Signs (nums (p ++ ueS (seF n))) := by
    rw [nums_append, ueS_nums]
    exact hp.append (ueL_signs _)
  have h := implReadSe (p ++ ueS (seF n)) p.size (wid (seF n + 1) - 1) (seF n) W (rowOkB_of _ (by rw [hsz]; omega) hsg) hc
  have e : (p.size : Int) + ((wid (seF n + 1) - 1 : Nat) : Int) + (((wid (seF n + 1) - 1 : Nat) : Int) + 1) = (p.size : Int) + ((ueS (seF n)).size : Int) := by rw [hz]; omega
  rw [e, seO_seF] at h
  exact h
/-- How long the row of a lesser number is. -/
theorem se_less (n m : Int) (hn : -500000 ≤ n ∧ n ≤ 500000) (hm : -500000 ≤ m ∧ m ≤ 500000) (h : seF m ≤ seF n) (W : World) :
    ∃ r : Int, 0 < r ∧ r ≤ ((ueS (seF n)).size : Int) ∧ Calls Try.prog 23 #[.int .i64 m] W fun e w' => e = .returned (.int .i64 r) ∧ w' = W := by
  obtain ⟨h0, h1⟩ := seF_bd n hn
  obtain ⟨g0, g1⟩ := seF_bd m hm
  have a := wid_mono (seF m + 1) (seF n + 1) (by omega) (by omega) (by omega)
  have b := wid_pow (seF m + 1) (by omega) (by omega)
  have hz := ueS_size (seF n) h0 h1
  exact ⟨2 * (wid (seF m + 1) : Int) - 1, by omega, by omega, implSeSize m W hm⟩

set_option maxHeartbeats 1600000 in
theorem fnSigned_walk (a : Option Addr) (len cap : Nat) (w : World) (hc : CodeIn w a len cap) :
    Calls Try.prog 4 #[.slice a len cap] w fun e w' => e = .returned (.bool true) ∧ Below w.heap.size w w' := by
  have HC : Hid (CodeRow w w.heap.size a len) := hc.2.2
  have hlen : (len : Int) ≤ 1048576 := hc.1
  clear hc
  go_enter Try.func4, Try.ntmps4
  go_wp2_with fail
  refine (big_any a len cap w hlen).mono ?_
  rintro e w0 ⟨rfl, hw⟩
  subst w0
  go_wp2_with fail
  refine (drawPlaces_any a len cap w.heap.size _ HC.out (Nat.le_refl _)).mono ?_
  rintro e w1 ⟨g, c, l, rfl, hl, hin, hown, hb1⟩
  have q0 := getD_in hl (show 0 < 12 by omega) hin
  have q1 := getD_in hl (show 1 < 12 by omega) hin
  have q2 := getD_in hl (show 2 < 12 by omega) hin
  have q3 := getD_in hl (show 3 < 12 by omega) hin
  have d0 := cellI hown hl 0 (by omega)
  have d1 := cellI hown hl 1 (by omega)
  have d2 := cellI hown hl 2 (by omega)
  have d3 := cellI hown hl 3 (by omega)
  generalize l.getD 0 0 = p0 at *
  generalize l.getD 1 0 = p1 at *
  generalize l.getD 2 0 = p2 at *
  generalize l.getD 3 0 = p3 at *
  have hgl : g < w1.heap.size := World.block_lt_of_cell? w1 _ d0
  have hbs1 := hb1.size
  have HC1 : Hid (CodeRow w1 w.heap.size a len) := HC.out.below hb1
  clear hin hown hl
  go_wp2_with fail
  refine (drawRow_any a len cap w.heap.size _ HC1.out hbs1).mono ?_
  rintro e w2 ⟨lt, rfl, hlt, hsg, hb2⟩
  have hts : (strOfNums lt).size ≤ 60 := by rw [strOfNums_size]; omega
  have HSG : Hid (Signs (nums (strOfNums lt))) := by
    show Signs _
    rw [nums_of lt (Signs.bd hsg)]; exact hsg
  clear hsg
  generalize strOfNums lt = t at *
  have e0 : w2.cell? ⟨g, 0, none⟩ = some (.int .i64 p0) := (hb2.cell (p := ⟨g, 0, none⟩) hgl).trans d0
  have e1 : w2.cell? ⟨g, 1, none⟩ = some (.int .i64 p1) := (hb2.cell (p := ⟨g, 1, none⟩) hgl).trans d1
  have e2 : w2.cell? ⟨g, 2, none⟩ = some (.int .i64 p2) := (hb2.cell (p := ⟨g, 2, none⟩) hgl).trans d2
  have e3 : w2.cell? ⟨g, 3, none⟩ = some (.int .i64 p3) := (hb2.cell (p := ⟨g, 3, none⟩) hgl).trans d3
  have hb12 : Below w.heap.size w w2 := hb1.trans (hb2.mono hbs1)
  clear d0 d1 d2 d3
  obtain ⟨k, hk⟩ : ∃ k : Nat, p2 % 20 = (k : Int) := ⟨(p2 % 20).toNat, by omega⟩
  have hk20 : (k : Int) < 20 := by omega
  have hpr : 0 ≤ p3 % 3 * (p3 % 200) ∧ p3 % 3 * (p3 % 200) ≤ 398 := by
    have : p3 % 3 = 0 ∨ p3 % 3 = 1 ∨ p3 % 3 = 2 := by omega
    rcases this with h | h | h <;> rw [h] <;> omega
  obtain ⟨pr0, pr1⟩ := hpr
  obtain ⟨x0, x1⟩ := div_pow_bd (p0 * 50 + p1 % 50) k (by omega)
  have x2 : (p0 * 50 + p1 % 50) / 2 ^ k ≤ 499999 := by omega
  clear x1
  go_wp2_with fail
  go_quiet (fail)
  have hn : -500000 ≤ (p0 * 50 + p1 % 50) / 2 ^ k - p3 % 3 * (p3 % 200) ∧ (p0 * 50 + p1 % 50) / 2 ^ k - p3 % 3 * (p3 % 200) ≤ 500000 := by omega
  generalize (p0 * 50 + p1 % 50) / 2 ^ k - p3 % 3 * (p3 % 200) = n at *
  have hb4 : Below w.heap.size w (w2.drewN nq) := below_drewN hb12 nq
  clear e0 e1 e2 e3 x0 x2 hk pr0 pr1 hb12
  generalize w2.drewN nq = w4 at *
  clear nq
  have HN : Hid (-500000 ≤ n ∧ n ≤ 500000) := hn
  obtain ⟨n0, n2⟩ := hn
  obtain ⟨u0, u1⟩ := seF_bd n HN.out
  have l1 := ueS_size (seF n) u0 u1
  obtain ⟨_, w1u, _, _⟩ := wid_pow (seF n + 1) (by omega) (by omega)
  have s1 : ((ueS (seF n)).size : Int) ≤ 39 := by omega
  have t1 : (t.size : Int) ≤ 60 := by omega
  have HR : Hid (∀ W, Calls Try.prog 20 #[.string (t ++ ueS (seF n)), .int .i64 t.size] W fun e w' => e = .returned (.tuple #[.int .i64 n, .int .i64 ((t.size : Int) + ((ueS (seF n)).size : Int)), .bool true]) ∧ w' = W) := fun W =>
    readSe_put t n W HSG.out (by omega) HN.out
  have HZ : Hid (∀ W, Calls Try.prog 23 #[.int .i64 n] W fun e w' => e = .returned (.int .i64 ((ueS (seF n)).size : Int)) ∧ w' = W) := fun W => by
    have h := implSeSize n W HN.out
    have e3 : 2 * (wid (seF n + 1) : Int) - 1 = ((ueS (seF n)).size : Int) := by omega
    rw [e3] at h
    exact h
  have HL : Hid (∀ m W, (-500000 ≤ m ∧ m ≤ 500000) → seF m ≤ seF n → ∃ r : Int, 0 < r ∧ r ≤ ((ueS (seF n)).size : Int) ∧ Calls Try.prog 23 #[.int .i64 m] W fun e w' => e = .returned (.int .i64 r) ∧ w' = W) := fun m W hm h => se_less n m HN.out hm h W
  have HU : Hid (∀ W, Calls Try.prog 19 #[.int .i64 n] W fun e w' => e = .returned (.tuple #[.string (ueS (seF n)), .bool true]) ∧ Below W.heap.size W w') := fun W => implSeRow n W HN.out
  have HF : Hid (∀ W, Calls Try.prog 21 #[.int .i64 n] W fun e w' => e = .returned (.tuple #[.int .i64 (seF n), .bool true]) ∧ w' = W) := fun W => implFoldSe n W HN.out
  have HO : Hid (∀ W, Calls Try.prog 22 #[.int .i64 (seF n)] W fun e w' => e = .returned (.tuple #[.int .i64 n, .bool true]) ∧ w' = W) := fun W => by
    have h := implOpenSe (seF n) W ⟨u0, u1⟩
    rw [seO_seF] at h
    exact h
  have HM : Hid (∀ m, (0 < n → m = n - 1) → (n < 0 → m = n + 1) → (n = 0 → m = 0) → seF m ≤ seF n) := fun m h1 h2 h3 => by
    unfold seF; split <;> split <;> omega
  clear l1 w1u hts
  generalize ueS (seF n) = s at *
  have HM' : Hid (∀ m, (0 < n → m = n - 1) → (n < 0 → m = n + 1) → (n = 0 → m = 0) → ∀ W, ∃ r : Int, 0 < r ∧ r ≤ (s.size : Int) ∧ Calls Try.prog 23 #[.int .i64 m] W fun e w' => e = .returned (.int .i64 r) ∧ w' = W) := fun m h1 h2 h3 W => HL.out m W (by omega) (HM.out m h1 h2 h3)
  clear HL HM
  generalize seF n = u at *
  go_wp2_with fail
  refine (HU.out _).mono ?_
  rintro e w5 ⟨rfl, hb5⟩
  have hb7 : Below w.heap.size w w5 := hb4.trans (hb5.mono hb4.size)
  clear hb1 hb2 hb4 hb5
  go_wp2_with fail
  refine (HR.out _).mono ?_
  rintro e w7 ⟨rfl, hw7⟩
  subst w7
  go_wp2_with fail
  refine (HF.out _).mono ?_
  rintro e w7 ⟨rfl, hw7⟩
  subst w7
  go_wp2_with fail
  refine (HO.out _).mono ?_
  rintro e w7 ⟨rfl, hw7⟩
  subst w7
  rcases Int.lt_trichotomy n 0 with c | c | c
  · obtain ⟨r, r0, r1, hr⟩ := HM'.out (n + 1) (by omega) (by omega) (by omega) w5
    have HX : Hid (Calls Try.prog 23 #[.int .i64 (n + 1)] w5 fun e w' => e = .returned (.int .i64 r) ∧ w' = w5) := hr
    clear hr HM'
    go_wp2_with (first
      | (go_at_call 23; refine HX.out.mono ?_; rintro e w8 ⟨rfl, hw8⟩; subst w8)
      | (go_at_call 23; refine (HZ.out _).mono ?_; rintro e w8 ⟨rfl, hw8⟩; subst w8))
    go_ret
    exact ⟨rfl, hb7⟩
  · obtain ⟨r, r0, r1, hr⟩ := HM'.out 0 (by omega) (by omega) (by omega) w5
    subst c
    have s0 : 0 < (s.size : Int) := by omega
    clear hr HM'
    go_wp2_with (go_at_call 23; refine (HZ.out _).mono ?_; rintro e w8 ⟨rfl, hw8⟩; subst w8)
    go_ret
    refine ⟨?_, hb7⟩
    show Ending.returned (Value.bool (decide (0 < s.size))) = _
    rw [decide_eq_true (by omega : 0 < s.size)]
  · obtain ⟨r, r0, r1, hr⟩ := HM'.out (n - 1) (by omega) (by omega) (by omega) w5
    have HX : Hid (Calls Try.prog 23 #[.int .i64 (n - 1)] w5 fun e w' => e = .returned (.int .i64 r) ∧ w' = w5) := hr
    clear hr HM'
    go_wp2_with (first
      | (go_at_call 23; refine HX.out.mono ?_; rintro e w8 ⟨rfl, hw8⟩; subst w8)
      | (go_at_call 23; refine (HZ.out _).mono ?_; rintro e w8 ⟨rfl, hw8⟩; subst w8))
    go_ret
    exact ⟨rfl, hb7⟩
end Go.Proofs.Ytppafgkdilpkgaa
