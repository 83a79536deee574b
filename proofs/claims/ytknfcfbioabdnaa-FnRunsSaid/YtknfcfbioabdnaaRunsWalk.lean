/-
  The walk of laws.FnRuns: drawn levels come back from their runs, wherever these stand; noughts alone take one sign.
-/
import Derived.Test.YtknfcfbioabdnaaCodeKit
import Derived.Test.YtknfcfbioabdnaaDrawPlaces
import Derived.Test.YtknfcfbioabdnaaDrawRows
import Derived.Test.YtknfcfbioabdnaaLevelsDraw
import Derived.Test.YtknfcfbioabdnaaRunTops
import Derived.Test.YtknfcfbioabdnaaRunsAt
import Derived.Test.YtknfcfbioabdnaaRunPut
import Derived.Test.YtknfcfbioabdnaaSameOne
namespace Go.Proofs.Ytknfcfbioabdnaa
open Go.RowKit
set_option linter.unusedVariables false
set_option maxRecDepth 20000

theorem news_of_row {w : World} {g : Nat} {l : List Int} (h : Ints w (some ⟨g, 0, none⟩) l) : ∀ j u, (l.map (Value.int .i64))[j]? = some u → w.cell? ((⟨g, 0, none⟩ : Addr).add j) = some u := fun j u hu => by
  have hj : j < l.length := by
    have := (List.getElem?_eq_some_iff.1 hu).1
    simpa using this
  rcases h with h0 | ⟨b, off, e, _, hc⟩
  · rw [h0] at hj
    simp at hj
  · cases e
    rw [Addr.add_mid, hc j hj, ← hu]
    simp [hj]
theorem rnOk_listF {n : Nat} (hn : n = 16 ∨ n = 64) {f : Nat → Int} (hf : ∀ j, -5000 ≤ f j ∧ f j ≤ 5000) : rnOk (listF n f) = true := by
  unfold rnOk
  have : inB 5000 (listF n f) = true := inB_iff.2 fun i hi => by
    rw [listF_length] at hi
    rw [listF_get _ hi]
    exact hf i
  rw [this, listF_length]
  rcases hn with rfl | rfl <;> rfl

/-- append behind a guard that holds, its run being known. -/
theorem wpList_append_wanted {P : Program} {w : World} {ops : Array Oper} {rest : List Oper} {o : Oper} {a : Act} {Q : Exit → Act → World → Prop} (hw : Region.wanted o (yielded ops a.tmps) = true) (s x : Operand) (t u : TypeId)
    (ho : o.op = .call { callee := .builtin .append, args := #[s, x], argTypes := #[t, u] }) (v y v' : Value) (w' : World) (hs : a.eval s = v) (hx : a.eval x = y)
    (hr : (Builtin.append_ #[t, u] o.type #[v, y]).run P w = .ok v' w') (h : wpList P ops Q rest (a.put o.dst v') w') : wpList P ops Q (o :: rest) a w := by
  unfold wpList
  rw [if_pos hw]
  refine Or.inl ?_
  unfold Oper.wp execOp
  simp only [ho, resolve, invoke, builtin, Sem.run_bind, Sem.run_pure, Result.andThen_ok, List.map_toArray, List.map_cons, List.map_nil, hs, hx, hr]
  exact h
/-- A copy of a list: append to nothing. -/
theorem copy_run {W : World} {g n c : Nat} {xs : List Int} (hn : xs.length = n) (hs : n ≤ 64) (h0 : 1 ≤ n) (hi : Ints (W.alloc (.cells #[] 3)) (some ⟨g, 0, none⟩) xs) :
    ∃ gq cq W', (Builtin.append_ #[24, 24] 24 #[.slice (some ⟨W.heap.size, 0, none⟩) 0 0, .slice (some ⟨g, 0, none⟩) n c]).run Try.prog (W.alloc (.cells #[] 3)) = .ok (.slice (some ⟨gq, 0, none⟩) n cq) W' ∧
      W'.ownsRow W.heap.size 3 1 (.slice (some ⟨gq, 0, none⟩) n cq) n (xs.map (Value.int .i64)) ∧ Below W.heap.size W W' := by
  obtain ⟨i0, hi0, hz0, hz1, hz2⟩ := info_parts infoI
  have hown : (W.alloc (.cells #[] 3)).ownsRow W.heap.size 3 1 (.slice (some ⟨W.heap.size, 0, none⟩) 0 0) 0 [] := World.ownsRow_made W #[] 0 (Nat.le_refl _) (by unfold maxLen; omega) rfl
  obtain ⟨v', W', hr, ho, hg, hiff⟩ := run_append_own (P := Try.prog) (W.alloc (.cells #[] 3)) W.heap.size 24 24 3 i0 (.int .i64 0) 1 8 Try.underlying24 hi0 hz0 hz1 hz2 rfl (by omega) (.slice (some ⟨W.heap.size, 0, none⟩) 0 0) 0 [] hown ⟨g, 0, none⟩ n c (xs.map (Value.int .i64)) (by rw [List.length_map, hn, Nat.mul_one]) (news_of_row hi) (ints_oneCell .i64 _) (by unfold maxLen; omega) (by omega) (by simp)
  rw [Nat.zero_add, List.nil_append] at ho
  obtain ⟨gq, cq, rfl, _, _⟩ := ho.form (by omega)
  exact ⟨gq, cq, W', hr, ho, ((Below.refl _ _).alloc (Nat.le_refl _) _).grown hg (by simp) (fun j hj => by cases hj; exact Nat.le_refl _)⟩

set_option maxHeartbeats 4000000 in
theorem fnRuns_walk (a : Option Addr) (len cap : Nat) (w : World) (hc : CodeIn w a len cap) :
    Calls Try.prog 4 #[.slice a len cap] w fun e w' => e = .returned (.bool true) ∧ Below w.heap.size w w' := by
  obtain ⟨i0, hi0, hz0, hz1, hz2⟩ := info_parts infoI
  obtain ⟨hlen, _, hrow⟩ := hc
  have HRow : Hid (CodeRow w w.heap.size a len) := hrow
  clear hrow
  go_enter Try.func4, Try.ntmps4
  go_wp2_with fail
  refine (big_any a len cap w hlen).mono ?_
  rintro e w0 ⟨rfl, hw⟩
  subst w0
  go_wp2_with fail
  refine (drawPlaces_any a len cap w.heap.size w HRow.out (Nat.le_refl _)).mono ?_
  rintro e w1 ⟨g1, c1, l, rfl, hl, hx, hown, hb1⟩
  have d0 := cellI hown hl 0 (by omega)
  have hp0 := getD_in hl (show 0 < 12 by omega) hx
  obtain ⟨p, hp⟩ : ∃ p, l.getD 0 0 = p := ⟨_, rfl⟩
  rw [hp] at d0 hp0
  obtain ⟨p0, p1⟩ := hp0
  obtain ⟨N, hN, hN2⟩ : ∃ N : Nat, (16 : Int) + 48 * (p % 2) = (N : Int) ∧ (N = 16 ∨ N = 64) := by
    have h2 : p % 2 = 0 ∨ p % 2 = 1 := by omega
    rcases h2 with h | h
    · exact ⟨16, by rw [h]; rfl, .inl rfl⟩
    · exact ⟨64, by rw [h]; rfl, .inr rfl⟩
  have n16 : (16 : Int) ≤ (N : Int) := by omega
  have n64 : (N : Int) ≤ 64 := by omega
  have HN2 : Hid (N = 16 ∨ N = 64) := hN2
  have hc1 : CodeRow w1 w.heap.size a len := HRow.out.below hb1
  have HC1 : Hid (CodeRow w1 w.heap.size a len) := hc1
  clear hown hx hl hp hN2 hc1
  go_wp2_with fail
  refine (drawLevels_any a len cap w.heap.size N w1 HC1.out hb1.size (by omega) (by omega)).mono ?_
  rintro e w2 ⟨g2, f, rfl, hf, hown2, hb2⟩
  have hbw2 := hb1.trans (hb2.mono hb1.size)
  have HX : Hid (rnOk (listF N f) = true) := rnOk_listF HN2.out hf
  have hlX : (listF N f).length = N := listF_length N f
  obtain ⟨xs, hxs⟩ : ∃ xs, listF N f = xs := ⟨_, rfl⟩
  rw [hxs] at HX hlX hown2
  have HLX : Hid (xs.length = N) := hlX
  have IX : Hid (∀ w', Below w2.heap.size w2 w' → Ints w' (some ⟨g2, 0, none⟩) xs) := fun w' hb => by
    have ho : w2.ownsRow w1.heap.size 3 1 (.slice (some ⟨g2, 0, none⟩) xs.length N) xs.length (xs.map (Value.int .i64)) := by rw [HLX.out]; exact hown2
    exact (owned_at ho).below hb (Nat.le_refl _)
  have HC2 : Hid (CodeRow w2 w.heap.size a len) := HC1.out.below (hb2.mono hb1.size)
  clear hown2 hf hxs hlX HC1 d0 hb2
  go_wp2_with fail
  refine (drawRow_any a len cap w.heap.size w2 HC2.out hbw2.size).mono ?_
  rintro e w3 ⟨la, rfl, hla, hsa, hb3⟩
  have hbw3 := hbw2.trans (hb3.mono hbw2.size)
  have hx3 : Below w2.heap.size w2 w3 := hb3
  have HSA : Hid (Signs la) := fun x hx => by have := hsa x hx; omega
  have HRA : Hid ((strOfNums la).size ≤ 60 ∧ Signs (nums (strOfNums la))) := ⟨by rw [sizeS]; exact hla, by rw [nums_of _ HSA.out.bd]; exact HSA.out⟩
  obtain ⟨A, hA⟩ : ∃ A, strOfNums la = A := ⟨_, rfl⟩
  rw [hA] at HRA ⊢
  clear hla hsa HSA hA HC2 hb3 hbw2 hb1
  go_wp2_with (at_builtin; refine wpList_append_lies _ (by rfl) _ _ 24 (by rfl) w3.heap.size 3 i0 (.int .i64 0) 1 8 Try.underlying24 hi0 hz0 hz1 hz2 rfl (by omega) (.slice (some ⟨w3.heap.size, 0, none⟩) 0 0) 0 [] (by rfl) (World.ownsRow_made w3 #[] 0 (Nat.le_refl _) (by unfold maxLen; omega) rfl) ⟨g2, 0, none⟩ N N (xs.map (Value.int .i64)) (by rfl) (by rw [List.length_map, HLX.out, Nat.mul_one]) (news_of_row (IX.out _ (hx3.alloc hx3.size _))) (ints_oneCell .i64 _) (by omega) (by unfold maxLen; omega) (by omega) (by simp) (w3.heap.size + 1) (by simp) ?_; intro gv cv w4 hown4 hgrow _ _)
  have hv4 : w4.ownsRow w3.heap.size 3 1 (.slice (some ⟨gv, 0, none⟩) N cv) N (xs.map (Value.int .i64)) := by simpa using hown4
  have hbc4 : Below w3.heap.size w3 w4 := ((Below.refl _ _).alloc (Nat.le_refl _) _).grown hgrow (by simp) (fun j hj => by cases hj; exact Nat.le_refl _)
  have hbw4 := hbw3.trans (hbc4.mono hbw3.size)
  have hx4 := hx3.trans (hbc4.mono hx3.size)
  have i4 : Ints w4 (some ⟨gv, 0, none⟩) xs := by
    have ho : w4.ownsRow w3.heap.size 3 1 (.slice (some ⟨gv, 0, none⟩) xs.length cv) xs.length (xs.map (Value.int .i64)) := by rw [HLX.out]; exact hv4
    exact owned_at ho
  have CR : Hid (∀ (q : Option Addr) (k : Nat) w', Ints w' q xs → Calls Try.prog 19 #[.slice q N k] w' (fun e w'' => e = .returned (.tuple #[.string (rnS xs), .bool true]) ∧ Below w'.heap.size w' w'')) := fun q k w' hi => by
    have := implRunsRow q k xs w' hi (by rw [HLX.out]; unfold maxLen; omega)
    rwa [HLX.out, HX.out] at this
  have CZ : Hid (∀ (q : Option Addr) (k : Nat) w', Ints w' q xs → Calls Try.prog 21 #[.slice q N k] w' (fun e w'' => e = .returned (.int .i64 ((rnS xs).size : Int)) ∧ Below w'.heap.size w' w'')) := fun q k w' hi => by
    have := implRunsSize q k xs w' hi (by rw [HLX.out]; unfold maxLen; omega)
    rwa [HLX.out] at this
  have CM : Hid (∀ (q q' : Option Addr) (k k' : Nat) w', Ints w' q xs → Ints w' q' xs → Calls Try.prog 16 #[.slice q N k, .slice q' N k'] w' (fun e w'' => e = .returned (.bool true) ∧ Below w'.heap.size w' w'')) := fun q q' k k' w' hi hi' => by
    have := sameInts_any q q' k k' xs w' hi hi' (by rw [HLX.out]; omega)
    rwa [HLX.out] at this
  have CN : Hid (∀ (q : Option Addr) (k : Nat) w', Ints w' q (listF N (fun _ => 0)) → Calls Try.prog 19 #[.slice q N k] w' (fun e w'' => e = .returned (.tuple #[.string ⟨#[49]⟩, .bool true]) ∧ Below w'.heap.size w' w'')) := fun q k w' hi => by
    have := implRunsRow q k (listF N (fun _ => 0)) w' hi (by rw [listF_length]; unfold maxLen; omega)
    rwa [listF_length, (noughts_row HN2.out).1, (noughts_row HN2.out).2] at this
  have HSg : Hid (Signs (nums (rnS xs))) := rnS_signs HX.out
  have HSz : Hid ((rnS xs).size ≤ 5200) := rnS_le xs
  have HRd : Hid (∀ F, IsCnt (A ++ rnS xs ++ ⟨#[49]⟩) F → rowOkB (A ++ rnS xs ++ ⟨#[49]⟩) = true → ansL N (rdSt F (A ++ rnS xs ++ ⟨#[49]⟩) (A.size : Int) (N : Int)) = xs ∧ ansE (rdSt F (A ++ rnS xs ++ ⟨#[49]⟩) (A.size : Int) (N : Int)) = (A.size : Int) + ((rnS xs).size : Int) ∧ ansY (rdSt F (A ++ rnS xs ++ ⟨#[49]⟩) (A.size : Int) (N : Int)) = true) := fun F hF hr => by
    have := read_put (P := A) (Q := ⟨#[49]⟩) hF HX.out rfl hr
    rwa [HLX.out] at this
  obtain ⟨S, hS⟩ : ∃ S, rnS xs = S := ⟨_, rfl⟩
  rw [hS] at CR CZ HSg HSz HRd
  have hRow : rowOkB (A ++ S ++ ⟨#[49]⟩) = true := by
    refine rowOkB_of _ ?_ ?_
    · rw [ByteArray.size_append, ByteArray.size_append]
      have h1 := HRA.out.1
      have h2 := HSz.out
      have h3 : (⟨#[49]⟩ : ByteArray).size = 1 := rfl
      omega
    · rw [nums_append, nums_append]
      exact (HRA.out.2.append HSg.out).append (fun x hx => by
        have : nums (⟨#[49]⟩ : ByteArray) = [49] := rfl
        rw [this] at hx
        simp at hx
        exact .inr hx)
  have CD : Hid (∀ w', Calls Try.prog 20 #[.string (A ++ S ++ ⟨#[49]⟩), .int .i64 (A.size : Int), .int .i64 (N : Int)] w' (fun e w'' => (∃ v, e = .returned (.tuple #[v, .int .i64 ((A.size : Int) + (S.size : Int)), .bool true]) ∧ w''.ownsRow w'.heap.size 3 1 v N (xs.map (Value.int .i64))) ∧ Below w'.heap.size w' w'')) := fun w' => by
    obtain ⟨F, hF⟩ := isCnt_exists (A ++ S ++ ⟨#[49]⟩)
    obtain ⟨r1, r2, r3⟩ := HRd.out F hF hRow
    have := implReadRuns hF (A.size : Int) (N : Int) w' (by
      rw [ByteArray.size_append, ByteArray.size_append]
      have h1 := HRA.out.1
      have h2 := HSz.out
      have h3 : (⟨#[49]⟩ : ByteArray).size = 1 := rfl
      unfold maxLen
      omega)
    rwa [Int.toNat_natCast, r1, r2, r3, HLX.out] at this
  have a60 : A.size ≤ 60 := HRA.out.1
  have s52 : S.size ≤ 5200 := HSz.out
  have c1 : ¬ 9223372036854775807 < A.size + S.size := by omega
  have c2 : ¬ 9223372036854775807 < A.size + S.size + 1 := by omega
  have c3 : ¬ 9223372036854775807 < (A ++ S).size + (⟨#[49]⟩ : ByteArray).size := by
    rw [ByteArray.size_append]
    have h3 : (⟨#[49]⟩ : ByteArray).size = 1 := rfl
    omega
  clear hown4 hgrow hv4 hS HRd hRow HRA HSg HSz hbc4 hx3 hbw3 HX
  go_wp2_with fail
  refine (CR.out _ _ w4 i4).mono ?_
  rintro e w5 ⟨rfl, hc5⟩
  have hbw5 := hbw4.trans (hc5.mono hbw4.size)
  have hx5 := hx4.trans (hc5.mono hx4.size)
  clear hc5 hbw4 hx4 i4 CR
  go_wp2_with fail
  refine (CD.out w5).mono ?_
  rintro e w6 ⟨⟨v, rfl, ho⟩, hc6⟩
  obtain ⟨gy, cy, rfl, _, _⟩ := ho.form (by omega)
  have hbw6 := hbw5.trans (hc6.mono hbw5.size)
  have hx6 := hx5.trans (hc6.mono hx5.size)
  have IY : Hid (∀ w', Below w6.heap.size w6 w' → Ints w' (some ⟨gy, 0, none⟩) xs) := fun w' hb => by
    have ho' : w6.ownsRow w5.heap.size 3 1 (.slice (some ⟨gy, 0, none⟩) xs.length cy) xs.length (xs.map (Value.int .i64)) := by rw [HLX.out]; exact ho
    exact (owned_at ho').below hb (Nat.le_refl _)
  clear ho hc6 hbw5 hx5 CD c1 c2 c3
  go_wp2_with (at_make; refine wpList_make_full _ (by rfl) _ _ 24 (by rfl) w6.heap.size 3 i0 (.int .i64 0) 1 Try.underlying24 hi0 hz0 hz1 .i64 .i64 _ _ N (by rfl) (by rfl) (by rfl) (by rfl) (by rw [hz2]; omega) (by unfold maxLen; omega) (Nat.le_refl _) ?_; intro w7 hown7 hgrow7)
  rw [none_made] at hown7
  have hc7 : Below w6.heap.size w6 w7 := (Below.refl _ _).grown hgrow7 (Nat.le_refl _) (fun j hj => by cases hj)
  have hbw7 := hbw6.trans (hc7.mono hbw6.size)
  have hx7 := hx6.trans (hc7.mono hx6.size)
  have i7 : Ints w7 (some ⟨w6.heap.size, 0, none⟩) (listF N (fun _ => 0)) := by
    have ho' : w7.ownsRow w6.heap.size 3 1 (.slice (some ⟨w6.heap.size, 0, none⟩) (listF N (fun _ => 0)).length N) (listF N (fun _ => 0)).length ((listF N (fun _ => 0)).map (Value.int .i64)) := by rw [listF_length]; exact hown7
    exact owned_at ho'
  clear hown7 hgrow7 hbw6 hx6
  go_wp2_with fail
  refine (CN.out _ _ w7 i7).mono ?_
  rintro e w8 ⟨rfl, hc8⟩
  have hbw8 := hbw7.trans (hc8.mono hbw7.size)
  have hx8 := hx7.trans (hc8.mono hx7.size)
  have hy8 := hc7.trans (hc8.mono hc7.size)
  clear hc7 hc8 hbw7 hx7 i7 CN
  go_wp2_with fail
  refine (CM.out _ _ _ _ w8 (IY.out w8 hy8) (IX.out w8 hx8)).mono ?_
  rintro e w9 ⟨rfl, hc9⟩
  have hbw9 := hbw8.trans (hc9.mono hbw8.size)
  have hx9 := hx8.trans (hc9.mono hx8.size)
  clear hc9 hbw8 hx8 hy8 IY CM
  obtain ⟨gq, cq, w10, hr10, hv10, hc10⟩ := copy_run (c := N) HLX.out (by omega) (by omega) (IX.out (w9.alloc (.cells #[] 3)) (hx9.alloc hx9.size _))
  go_wp2_with (at_builtin; refine wpList_append_wanted (by rfl) _ _ _ _ rfl _ _ _ _ rfl rfl hr10 ?_)
  have hbw10 := hbw9.trans (hc10.mono hbw9.size)
  have i10 : Ints w10 (some ⟨gq, 0, none⟩) xs := by
    have ho : w10.ownsRow w9.heap.size 3 1 (.slice (some ⟨gq, 0, none⟩) xs.length cq) xs.length (xs.map (Value.int .i64)) := by rw [HLX.out]; exact hv10
    exact owned_at ho
  clear hv10 hc10 hbw9 hx9
  refine (CZ.out _ _ w10 i10).mono ?_
  rintro e w11 ⟨rfl, hc11⟩
  have hbw11 := hbw10.trans (hc11.mono hbw10.size)
  clear hc11 hbw10 i10 CZ
  go_wp2
  go_ret
  exact ⟨rfl, hbw11⟩
end Go.Proofs.Ytknfcfbioabdnaa
