/-
  The walk of the law laws.FnCounts: drawn numbers come back from the rows that they were put into, one behind the other, and no row is the beginning of another.
-/
import Derived.Test.YtppafgkdilpkgaaCodeKit
import Derived.Test.YtppafgkdilpkgaaDrawPlaces
import Derived.Test.YtppafgkdilpkgaaCountTops
import Derived.Test.YtppafgkdilpkgaaCountReads
namespace Go.Proofs.Ytppafgkdilpkgaa
open Go.RowKit
set_option linter.unusedVariables false

theorem toList_inj {s t : ByteArray} (h : s.toList = t.toList) : s = t := by
  rw [Go.ByteArray.toList_eq, Go.ByteArray.toList_eq] at h
  exact ByteArray.ext (Array.ext' h)
theorem readUe_put (p q : ByteArray) (n : Int) (W : World) (hp : Signs (nums p)) (hq : Signs (nums q)) (hs : p.size + q.size ≤ 300000) (h0 : 0 ≤ n) (h1 : n ≤ 1000000) :
    Calls Try.prog 17 #[.string (p ++ ueS n ++ q), .int .i64 p.size] W fun e w' => e = .returned (.tuple #[.int .i64 n, .int .i64 ((p.size : Int) + ((ueS n).size : Int)), .bool true]) ∧ w' = W := by
  have hc := counted_put p q n h0 h1
  obtain ⟨l1, l20, _, _⟩ := wid_pow (n + 1) (by omega) (by omega)
  have hz := ueS_size n h0 h1
  have hsz : (p ++ ueS n ++ q).size = p.size + (ueS n).size + q.size := by rw [ByteArray.size_append, ByteArray.size_append]
  have hsg : Signs (nums (p ++ ueS n ++ q)) := by
    rw [nums_append, nums_append, ueS_nums]
    exact (hp.append (ueL_signs n)).append hq
  have h := implReadUe (p ++ ueS n ++ q) p.size (wid (n + 1) - 1) n W (rowOkB_of _ (by rw [hsz]; omega) hsg) hc
  have e : (p.size : Int) + ((wid (n + 1) - 1 : Nat) : Int) + (((wid (n + 1) - 1 : Nat) : Int) + 1) = (p.size : Int) + ((ueS n).size : Int) := by rw [hz]; omega
  rw [e] at h
  exact h
/-- No row is the beginning of another number's row. -/
theorem ueS_apart (n m : Int) (hn : 0 ≤ n ∧ n ≤ 1000000) (hm : 0 ≤ m ∧ m ≤ 1000000) (hs : (ueS n).size ≤ (ueS m).size) (h : (ueS m).extract 0 (ueS n).size = ueS n) : n = m := by
  have a := counted_put ⟨#[]⟩ ((ueS m).extract (ueS n).size (ueS m).size) n hn.1 hn.2
  have b := counted_put ⟨#[]⟩ ⟨#[]⟩ m hm.1 hm.2
  have e1 : ∀ s : ByteArray, (⟨#[]⟩ : ByteArray) ++ s = s := fun s => by apply ByteArray.ext; rw [ByteArray.data_append]; simp
  have e2 : ∀ s : ByteArray, s ++ (⟨#[]⟩ : ByteArray) = s := fun s => by apply ByteArray.ext; rw [ByteArray.data_append]; simp
  have e3 : ueS n ++ (ueS m).extract (ueS n).size (ueS m).size = ueS m := by
    conv => lhs; rw [← h]
    apply ByteArray.ext
    apply Array.ext'
    rw [ByteArray.data_append, Array.toList_append, Lib.extract_data, Lib.extract_data]
    have e4 : ((ueS m).extract 0 (ueS n).size).size = (ueS n).size := by rw [h]
    rw [e4, List.drop_zero, Nat.sub_zero, List.take_of_length_le (l := List.drop _ _) (by rw [List.length_drop]; exact Nat.le_of_eq (by rfl)), List.take_append_drop]
  rw [e1, e3] at a
  rw [e1, e2] at b
  exact (a.uniq b).2

set_option maxHeartbeats 1600000 in
theorem fnCounts_walk (a : Option Addr) (len cap : Nat) (w : World) (hc : CodeIn w a len cap) :
    Calls Try.prog 3 #[.slice a len cap] w fun e w' => e = .returned (.bool true) ∧ Below w.heap.size w w' := by
  have HC : Hid (CodeRow w w.heap.size a len) := hc.2.2
  have hlen : (len : Int) ≤ 1048576 := hc.1
  clear hc
  go_enter Try.func3, Try.ntmps3
  go_wp2_with fail
  refine (big_any a len cap w hlen).mono ?_
  rintro e w0 ⟨rfl, hw⟩
  subst w0
  go_wp2_with fail
  refine (drawPlaces_any a len cap w.heap.size _ HC.out (Nat.le_refl _)).mono ?_
  rintro e w1 ⟨g, c, l, rfl, hl, hin, hown, hb1⟩
  have q0 := getD_in hl (show 0 < 12 by omega) hin
  have q1 := getD_in hl (show 1 < 12 by omega) hin
  have q2 := getD_in hl (show 2 < 12 by omega) hin
  have q3 := getD_in hl (show 3 < 12 by omega) hin
  have q4 := getD_in hl (show 4 < 12 by omega) hin
  have q5 := getD_in hl (show 5 < 12 by omega) hin
  have d0 := cellI hown hl 0 (by omega)
  have d1 := cellI hown hl 1 (by omega)
  have d2 := cellI hown hl 2 (by omega)
  have d3 := cellI hown hl 3 (by omega)
  have d4 := cellI hown hl 4 (by omega)
  have d5 := cellI hown hl 5 (by omega)
  generalize l.getD 0 0 = p0 at *
  generalize l.getD 1 0 = p1 at *
  generalize l.getD 2 0 = p2 at *
  generalize l.getD 3 0 = p3 at *
  generalize l.getD 4 0 = p4 at *
  generalize l.getD 5 0 = p5 at *
  have hgl : g < w1.heap.size := World.block_lt_of_cell? w1 _ d0
  have hbs1 := hb1.size
  have HC1 : Hid (CodeRow w1 w.heap.size a len) := HC.out.below hb1
  clear hin hown hl
  go_wp2_with fail
  refine (drawRow_any a len cap w.heap.size _ HC1.out hbs1).mono ?_
  rintro e w2 ⟨lt, rfl, hlt, hsg, hb2⟩
  have hts : (strOfNums lt).size ≤ 60 := by rw [strOfNums_size]; omega
  have HSG : Hid (Signs (nums (strOfNums lt))) := by
    show Signs _
    rw [nums_of lt (Signs.bd hsg)]; exact hsg
  clear hsg
  generalize strOfNums lt = t at *
  have e0 : w2.cell? ⟨g, 0, none⟩ = some (.int .i64 p0) := (hb2.cell (p := ⟨g, 0, none⟩) hgl).trans d0
  have e1 : w2.cell? ⟨g, 1, none⟩ = some (.int .i64 p1) := (hb2.cell (p := ⟨g, 1, none⟩) hgl).trans d1
  have e2 : w2.cell? ⟨g, 2, none⟩ = some (.int .i64 p2) := (hb2.cell (p := ⟨g, 2, none⟩) hgl).trans d2
  have e3 : w2.cell? ⟨g, 3, none⟩ = some (.int .i64 p3) := (hb2.cell (p := ⟨g, 3, none⟩) hgl).trans d3
  have e4 : w2.cell? ⟨g, 4, none⟩ = some (.int .i64 p4) := (hb2.cell (p := ⟨g, 4, none⟩) hgl).trans d4
  have e5 : w2.cell? ⟨g, 5, none⟩ = some (.int .i64 p5) := (hb2.cell (p := ⟨g, 5, none⟩) hgl).trans d5
  have hb12 : Below w.heap.size w w2 := hb1.trans (hb2.mono hbs1)
  clear d0 d1 d2 d3 d4 d5
  obtain ⟨k, hk⟩ : ∃ k : Nat, p2 % 20 = (k : Int) := ⟨(p2 % 20).toNat, by omega⟩
  have hk20 : (k : Int) < 20 := by omega
  obtain ⟨k', hk'⟩ : ∃ k' : Nat, p5 % 20 = (k' : Int) := ⟨(p5 % 20).toNat, by omega⟩
  have hk20' : (k' : Int) < 20 := by omega
  go_wp2_with fail
  go_quiet (fail)
  obtain ⟨n0, n1⟩ := div_pow_bd (p0 * 100 + p1 % 100) k (by omega)
  have n2 : (p0 * 100 + p1 % 100) / 2 ^ k ≤ 1000000 := by omega
  generalize (p0 * 100 + p1 % 100) / 2 ^ k = n at *
  have hb3 : Below w.heap.size w (w2.drewN nq) := below_drewN hb12 nq
  have f3 : (w2.drewN nq).cell? ⟨g, 3, none⟩ = some (.int .i64 p3) := e3
  have f4 : (w2.drewN nq).cell? ⟨g, 4, none⟩ = some (.int .i64 p4) := e4
  have f5 : (w2.drewN nq).cell? ⟨g, 5, none⟩ = some (.int .i64 p5) := e5
  clear e0 e1 e2 e3 e4 e5 n1 hk
  generalize w2.drewN nq = w3 at *
  clear nq
  go_wp2_with fail
  go_quiet (fail)
  obtain ⟨m0, m1⟩ := div_pow_bd (p3 * 100 + p4 % 100) k' (by omega)
  have m2 : (p3 * 100 + p4 % 100) / 2 ^ k' ≤ 1000000 := by omega
  generalize (p3 * 100 + p4 % 100) / 2 ^ k' = m at *
  have hb4 : Below w.heap.size w (w3.drewN nq) := below_drewN hb3 nq
  clear f3 f4 f5 m1 hk' hb3 hb12
  generalize w3.drewN nq = w4 at *
  clear nq
  have HN : Hid (0 ≤ n ∧ n ≤ 1000000) := ⟨n0, n2⟩
  have HM : Hid (0 ≤ m ∧ m ≤ 1000000) := ⟨m0, m2⟩
  have l1 := ueS_size n n0 n2
  have l2 := ueS_size m m0 m2
  obtain ⟨_, w1u, _, _⟩ := wid_pow (n + 1) (by omega) (by omega)
  obtain ⟨_, w2u, _, _⟩ := wid_pow (m + 1) (by omega) (by omega)
  have s1 : (ueS n).size ≤ 39 := by omega
  have s2 : (ueS m).size ≤ 39 := by omega
  have HR1 : Hid (∀ W, Calls Try.prog 17 #[.string (t ++ ueS n ++ ueS m), .int .i64 t.size] W fun e w' => e = .returned (.tuple #[.int .i64 n, .int .i64 ((t.size : Int) + ((ueS n).size : Int)), .bool true]) ∧ w' = W) := fun W =>
    readUe_put t (ueS m) n W HSG.out (by rw [ueS_nums]; exact ueL_signs m) (by omega) n0 n2
  have HR2 : Hid (∀ W, Calls Try.prog 17 #[.string (t ++ ueS n ++ ueS m), .int .i64 ((t.size : Int) + ((ueS n).size : Int))] W fun e w' => e = .returned (.tuple #[.int .i64 m, .int .i64 ((t.size : Int) + ((ueS n).size : Int) + ((ueS m).size : Int)), .bool true]) ∧ w' = W) := fun W => by
    have h := readUe_put (t ++ ueS n) ⟨#[]⟩ m W (by rw [nums_append, ueS_nums]; exact HSG.out.append (ueL_signs n)) (by intro x hx; cases hx) (by rw [ByteArray.size_append]; show _ + 0 ≤ _; omega) m0 m2
    have e2 : ∀ s : ByteArray, s ++ (⟨#[]⟩ : ByteArray) = s := fun s => by apply ByteArray.ext; rw [ByteArray.data_append]; simp
    rw [e2, ByteArray.size_append] at h
    have e3 : ((t.size + (ueS n).size : Nat) : Int) = (t.size : Int) + ((ueS n).size : Int) := by omega
    rw [e3] at h
    exact h
  have HZ : Hid (∀ W, Calls Try.prog 18 #[.int .i64 n] W fun e w' => e = .returned (.int .i64 ((ueS n).size : Int)) ∧ w' = W) := fun W => by
    have h := implUeSize n W HN.out
    have e3 : 2 * (wid (n + 1) : Int) - 1 = ((ueS n).size : Int) := by omega
    rw [e3] at h
    exact h
  have HA : Hid ((ueS n).size ≤ (ueS m).size → n ≠ m → (ueS m).extract 0 (ueS n).size ≠ ueS n) := fun h1 h2 h3 => h2 (ueS_apart n m HN.out HM.out h1 h3)
  have HU1 : Hid (∀ W, Calls Try.prog 16 #[.int .i64 n] W fun e w' => e = .returned (.tuple #[.string (ueS n), .bool true]) ∧ Below W.heap.size W w') := fun W => implUeRow n W HN.out
  have HU2 : Hid (∀ W, Calls Try.prog 16 #[.int .i64 m] W fun e w' => e = .returned (.tuple #[.string (ueS m), .bool true]) ∧ Below W.heap.size W w') := fun W => implUeRow m W HM.out
  clear l1 l2 w1u w2u
  generalize ueS n = s at *
  generalize ueS m = u at *
  go_wp2_with fail
  refine (HU1.out _).mono ?_
  rintro e w5 ⟨rfl, hb5⟩
  go_wp2_with fail
  refine (HU2.out _).mono ?_
  rintro e w6 ⟨rfl, hb6⟩
  have hb7 : Below w.heap.size w w6 := (hb4.trans (hb5.mono hb4.size)).trans (hb6.mono (Nat.le_trans hb4.size hb5.size))
  clear hb1 hb2 hb4 hb5 hb6
  go_wp2_with fail
  refine (HR1.out _).mono ?_
  rintro e w7 ⟨rfl, hw7⟩
  subst w7
  go_wp2_with fail
  refine (HR2.out _).mono ?_
  rintro e w7 ⟨rfl, hw7⟩
  subst w7
  have t1 : (t.size : Int) ≤ 60 := by omega
  have t2 : (s.size : Int) ≤ 39 := by omega
  have t3 : (u.size : Int) ≤ 39 := by omega
  clear hts s1 s2 HR1 HR2 HU1 HU2
  by_cases hnm : n = m
  · have z1 : (n == m) = true := by simp [hnm]
    clear hnm HA
    go_wp2_with (go_at_call 18; refine (HZ.out _).mono ?_; rintro e w8 ⟨rfl, hw8⟩; subst w8)
    go_ret
    exact ⟨rfl, hb7⟩
  · have z1 : (n == m) = false := by simp [hnm]
    by_cases hsz : (u.size : Int) < (s.size : Int)
    · clear hnm HA
      go_wp2_with (go_at_call 18; refine (HZ.out _).mono ?_; rintro e w8 ⟨rfl, hw8⟩; subst w8)
      go_ret
      exact ⟨rfl, hb7⟩
    · have HB : Hid (u.extract 0 s.size ≠ s) := HA.out (by omega) hnm
      have z2 : (s.size : Int) ≤ (u.size : Int) := by omega
      clear hnm HA hsz
      go_wp2_with (go_at_call 18; refine (HZ.out _).mono ?_; rintro e w8 ⟨rfl, hw8⟩; subst w8)
      have z3 : ((u.extract 0 s.size).toList == s.toList) = false := by
        rw [beq_eq_false_iff_ne]; exact fun h => HB.out (toList_inj h)
      go_ret
      refine ⟨?_, hb7⟩
      show Ending.returned (Value.bool (decide (u.size < s.size) || !(u.extract 0 s.size).toList == s.toList)) = _
      rw [z3]; simp
end Go.Proofs.Ytppafgkdilpkgaa
