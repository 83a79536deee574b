/-
  The walk of laws.FnScans: drawn lists come back from the order of the scan, in which each place comes once, and next ones are on the same diagonal or the one behind.
-/
import Derived.Test.YtknfcfbioabdnaaCodeKit
import Derived.Test.YtknfcfbioabdnaaDrawPlaces
import Derived.Test.YtknfcfbioabdnaaLevelsDraw
import Derived.Test.YtknfcfbioabdnaaScanAny
import Derived.Test.YtknfcfbioabdnaaScansMath
import Derived.Test.YtknfcfbioabdnaaSameOne
import Derived.BigQuiet
namespace Go.Proofs.Ytknfcfbioabdnaa
open Go.RowKit
set_option linter.unusedVariables false
set_option maxRecDepth 20000

theorem news_of_row {w : World} {g : Nat} {l : List Int} (h : Ints w (some ⟨g, 0, none⟩) l) : ∀ j u, (l.map (Value.int .i64))[j]? = some u → w.cell? ((⟨g, 0, none⟩ : Addr).add j) = some u := fun j u hu => by
  have hj : j < l.length := by
    have := (List.getElem?_eq_some_iff.1 hu).1
    simpa using this
  rcases h with h0 | ⟨b, off, e, _, hc⟩
  · rw [h0] at hj
    simp at hj
  · cases e
    rw [Addr.add_mid, hc j hj, ← hu]
    simp [hj]
/-- append behind a guard that holds, its run being known. -/
theorem wpList_append_wanted {P : Program} {w : World} {ops : Array Oper} {rest : List Oper} {o : Oper} {a : Act} {Q : Exit → Act → World → Prop} (hw : Region.wanted o (yielded ops a.tmps) = true) (s x : Operand) (t u : TypeId)
    (ho : o.op = .call { callee := .builtin .append, args := #[s, x], argTypes := #[t, u] }) (v y v' : Value) (w' : World) (hs : a.eval s = v) (hx : a.eval x = y)
    (hr : (Builtin.append_ #[t, u] o.type #[v, y]).run P w = .ok v' w') (h : wpList P ops Q rest (a.put o.dst v') w') : wpList P ops Q (o :: rest) a w := by
  unfold wpList
  rw [if_pos hw]
  refine Or.inl ?_
  unfold Oper.wp execOp
  simp only [ho, resolve, invoke, builtin, Sem.run_bind, Sem.run_pure, Result.andThen_ok, List.map_toArray, List.map_cons, List.map_nil, hs, hx, hr]
  exact h
/-- A copy of a list: append to nothing. -/
theorem copy_run {W : World} {g n c : Nat} {xs : List Int} (hn : xs.length = n) (hs : n ≤ 64) (h0 : 1 ≤ n) (hi : Ints (W.alloc (.cells #[] 3)) (some ⟨g, 0, none⟩) xs) :
    ∃ gq cq W', (Builtin.append_ #[24, 24] 24 #[.slice (some ⟨W.heap.size, 0, none⟩) 0 0, .slice (some ⟨g, 0, none⟩) n c]).run Try.prog (W.alloc (.cells #[] 3)) = .ok (.slice (some ⟨gq, 0, none⟩) n cq) W' ∧
      W'.ownsRow W.heap.size 3 1 (.slice (some ⟨gq, 0, none⟩) n cq) n (xs.map (Value.int .i64)) ∧ Below W.heap.size W W' := by
  obtain ⟨i0, hi0, hz0, hz1, hz2⟩ := info_parts infoI
  have hown : (W.alloc (.cells #[] 3)).ownsRow W.heap.size 3 1 (.slice (some ⟨W.heap.size, 0, none⟩) 0 0) 0 [] := World.ownsRow_made W #[] 0 (Nat.le_refl _) (by unfold maxLen; omega) rfl
  obtain ⟨v', W', hr, ho, hg, hiff⟩ := run_append_own (P := Try.prog) (W.alloc (.cells #[] 3)) W.heap.size 24 24 3 i0 (.int .i64 0) 1 8 Try.underlying24 hi0 hz0 hz1 hz2 rfl (by omega) (.slice (some ⟨W.heap.size, 0, none⟩) 0 0) 0 [] hown ⟨g, 0, none⟩ n c (xs.map (Value.int .i64)) (by rw [List.length_map, hn, Nat.mul_one]) (news_of_row hi) (ints_oneCell .i64 _) (by unfold maxLen; omega) (by omega) (by simp)
  rw [Nat.zero_add, List.nil_append] at ho
  obtain ⟨gq, cq, rfl, _, _⟩ := ho.form (by omega)
  exact ⟨gq, cq, W', hr, ho, ((Below.refl _ _).alloc (Nat.le_refl _) _).grown hg (by simp) (fun j hj => by cases hj; exact Nat.le_refl _)⟩

theorem below_drewK {B : Nat} {w w' : World} (h : Below B w w') : ∀ n, Below B w (w'.drewN n)
  | 0 => h
  | n + 1 => (below_drewK h n).drew

set_option maxHeartbeats 4000000 in
set_option maxRecDepth 20000 in
theorem fnScans_walk (a : Option Addr) (len cap : Nat) (w : World) (hc : CodeIn w a len cap) :
    Calls Try.prog 3 #[.slice a len cap] w fun e w' => e = .returned (.bool true) ∧ Below w.heap.size w w' := by
  obtain ⟨t0, ht0, hy0, hy1, hy2⟩ := info_parts infoT
  obtain ⟨hlen, _, hrow⟩ := hc
  have HRow : Hid (CodeRow w w.heap.size a len) := hrow
  clear hrow
  go_enter Try.func3, Try.ntmps3
  go_wp2_with fail
  refine (big_any a len cap w hlen).mono ?_
  rintro e w0 ⟨rfl, hw⟩
  subst w0
  go_wp2_with fail
  refine (drawPlaces_any a len cap w.heap.size w HRow.out (Nat.le_refl _)).mono ?_
  rintro e w1 ⟨g1, c1, l, rfl, hl, hx, hown, hb1⟩
  have d0 := cellI hown hl 0 (by omega)
  have hp0 := getD_in hl (show 0 < 12 by omega) hx
  obtain ⟨p, hp⟩ : ∃ p, l.getD 0 0 = p := ⟨_, rfl⟩
  rw [hp] at d0 hp0
  obtain ⟨p0, p1⟩ := hp0
  have HC1 : Hid (CodeRow w1 w.heap.size a len) := HRow.out.below hb1
  clear hown hx hl hp
  rcases (show p % 2 = 0 ∨ p % 2 = 1 by omega) with h2 | h2
  · have hs : SideOk 4 := by simp [SideOk]
    have CD : Hid (∀ w' B, CodeRow w' B a len → B ≤ w'.heap.size → Calls Try.prog 13 #[.slice a len cap, .int .i64 16] w' (fun e w'' => ∃ (g : Nat) (f : Nat → Int), e = .returned (.slice (some ⟨g, 0, none⟩) 16 16) ∧ (∀ j, -5000 ≤ f j ∧ f j ≤ 5000) ∧ w''.ownsRow w'.heap.size 3 1 (.slice (some ⟨g, 0, none⟩) 16 16) 16 ((listF 16 f).map (Value.int .i64)) ∧ Below w'.heap.size w' w'')) := fun w' B h hB => drawLevels_any a len cap B 16 w' h hB (by omega) (by omega)
    go_wp2_with fail
    refine (CD.out w1 _ HC1.out hb1.size).mono ?_
    rintro e w2 ⟨g2, f, rfl, _, hown2, hb2⟩
    have hbw2 := hb1.trans (hb2.mono hb1.size)
    have hlX : (listF 16 f).length = 16 := listF_length 16 f
    obtain ⟨xs, hxs⟩ : ∃ xs, listF 16 f = xs := ⟨_, rfl⟩
    rw [hxs] at hlX hown2
    have HLX : Hid (xs.length = 16) := hlX
    have IX : Hid (∀ w', Below w2.heap.size w2 w' → Ints w' (some ⟨g2, 0, none⟩) xs) := fun w' hb => by
      have ho : w2.ownsRow w1.heap.size 3 1 (.slice (some ⟨g2, 0, none⟩) xs.length 16) xs.length (xs.map (Value.int .i64)) := by rw [HLX.out]; exact hown2
      exact (owned_at ho).below hb (Nat.le_refl _)
    obtain ⟨m1, m2, m3, m4⟩ := scan_back hs hlX
    have HZ : Hid (∀ k, k < 16 → (listF 16 (fun i => xs.getD (scF 4 i) 0)).getD k 0 = xs.getD (scF 4 k) 0) := fun k hk => listF_get _ hk
    have hlZ : (listF 16 (fun i => xs.getD (scF 4 i) 0)).length = 16 := listF_length _ _
    have CS0 : ∀ (q : Option Addr) (k : Nat) w', Ints w' q xs → Calls Try.prog 14 #[.int .i64 4, .slice q xs.length k] w' (fun e w'' => (∃ v, e = .returned (.tuple #[v, .bool (scOk 4 xs)]) ∧ w''.ownsRow w'.heap.size 3 1 v (scanL 4 xs).length ((scanL 4 xs).map (Value.int .i64))) ∧ Below w'.heap.size w' w'') := fun q k w' hi => implScanned 4 q k xs w' hi (by rw [HLX.out]; unfold maxLen; omega)
    have CU0 : ∀ (q : Option Addr) (k : Nat) w', Ints w' q (listF 16 (fun i => xs.getD (scF 4 i) 0)) → Calls Try.prog 15 #[.int .i64 4, .slice q (listF 16 (fun i => xs.getD (scF 4 i) 0)).length k] w' (fun e w'' => (∃ v, e = .returned (.tuple #[v, .bool (scOk 4 (listF 16 (fun i => xs.getD (scF 4 i) 0)))]) ∧ w''.ownsRow w'.heap.size 3 1 v (backL 4 (listF 16 (fun i => xs.getD (scF 4 i) 0))).length ((backL 4 (listF 16 (fun i => xs.getD (scF 4 i) 0))).map (Value.int .i64))) ∧ Below w'.heap.size w' w'') := fun q k w' hi => implUnscanned 4 q k _ w' hi (by rw [hlZ]; unfold maxLen; omega)
    rw [show scOk 4 xs = true from m1, show scanL 4 xs = listF 16 (fun i => xs.getD (scF 4 i) 0) from m2] at CS0
    rw [show scOk 4 (listF 16 (fun i => xs.getD (scF 4 i) 0)) = true from m3, show backL 4 (listF 16 (fun i => xs.getD (scF 4 i) 0)) = xs from m4] at CU0
    rw [hlX, hlZ] at CS0
    rw [hlX, hlZ] at CU0
    obtain ⟨Z, hZ⟩ : ∃ Z, listF 16 (fun i => xs.getD (scF 4 i) 0) = Z := ⟨_, rfl⟩
    rw [hZ] at CS0 CU0 HZ hlZ
    have HLZ : Hid (Z.length = 16) := hlZ
    have CS : Hid (∀ (q : Option Addr) (k : Nat) w', Ints w' q xs → Calls Try.prog 14 #[.int .i64 4, .slice q 16 k] w' (fun e w'' => (∃ v, e = .returned (.tuple #[v, .bool true]) ∧ w''.ownsRow w'.heap.size 3 1 v 16 (Z.map (Value.int .i64))) ∧ Below w'.heap.size w' w'')) := CS0
    have CU : Hid (∀ (q : Option Addr) (k : Nat) w', Ints w' q Z → Calls Try.prog 15 #[.int .i64 4, .slice q 16 k] w' (fun e w'' => (∃ v, e = .returned (.tuple #[v, .bool true]) ∧ w''.ownsRow w'.heap.size 3 1 v 16 (xs.map (Value.int .i64))) ∧ Below w'.heap.size w' w'')) := CU0
    have CM : Hid (∀ (q q' : Option Addr) (k k' : Nat) w', Ints w' q xs → Ints w' q' xs → Calls Try.prog 16 #[.slice q 16 k, .slice q' 16 k'] w' (fun e w'' => e = .returned (.bool true) ∧ Below w'.heap.size w' w'')) := fun q q' k k' w' hi hi' => by
      have := sameInts_any q q' k k' xs w' hi hi' (by rw [HLX.out]; omega)
      rwa [HLX.out] at this
    have CT : Hid (∀ (k : Nat) w', k < 16 → Calls Try.prog 17 #[.int .i64 4, .int .i64 (k : Int)] w' (fun e w'' => e = .returned (.int .i64 (scF 4 k : Int)) ∧ Below w'.heap.size w' w'')) := fun k w' hk => by
      have := implScanAt_yes 4 hs (k : Int) w'
      rwa [show atF ((4 : Nat) : Int) (k : Int) = (scF 4 k : Int) by unfold atF; rw [if_pos ⟨by omega, by omega, by omega⟩]; simp] at this
    have HP : Hid (∀ k, k < 16 → scF 4 k < 16) := fun k hk => scF_lt hs hk
    have HD : Hid (∀ k, k < 16 → lastF 4 k ≤ dgF 4 k ∧ dgF 4 k ≤ lastF 4 k + 1 ∧ dgF 4 k ≤ 14) := diag_facts hs
    have HSd : Hid (SideOk 4) := hs
    clear hown2 hxs hlX hlZ hZ m1 m2 m3 m4 CS0 CU0 hs hb2 hb1 CD
    obtain ⟨gv, cv, w4, hr4, hv4, hc4⟩ := copy_run (c := 16) HLX.out (by omega) (by omega) (IX.out (w2.alloc (.cells #[] 3)) ((Below.refl _ _).alloc (Nat.le_refl _) _))
    have i4 : Ints w4 (some ⟨gv, 0, none⟩) xs := by
      have ho : w4.ownsRow w2.heap.size 3 1 (.slice (some ⟨gv, 0, none⟩) xs.length cv) xs.length (xs.map (Value.int .i64)) := by rw [HLX.out]; exact hv4
      exact owned_at ho
    have hbw4 := hbw2.trans (hc4.mono hbw2.size)
    clear hv4
    go_wp2_with (at_builtin; refine wpList_append_wanted (by rfl) _ _ _ _ rfl _ _ _ _ rfl rfl hr4 ?_)
    refine (CS.out _ _ w4 i4).mono ?_
    rintro e w5 ⟨⟨v, rfl, ho⟩, hc5⟩
    obtain ⟨gz, cz, rfl, _, _⟩ := ho.form (by omega)
    have hbw5 := hbw4.trans (hc5.mono hbw4.size)
    have hx5 : Below w2.heap.size w2 w5 := hc4.trans (hc5.mono hc4.size)
    have IZ : Hid (∀ w', Below w5.heap.size w5 w' → Ints w' (some ⟨gz, 0, none⟩) Z) := fun w' hb => by
      have ho' : w5.ownsRow w4.heap.size 3 1 (.slice (some ⟨gz, 0, none⟩) Z.length cz) Z.length (Z.map (Value.int .i64)) := by rw [HLZ.out]; exact ho
      exact (owned_at ho').below hb (Nat.le_refl _)
    clear ho hr4 hc4 hc5 hbw4 i4 CS hbw2
    obtain ⟨gu, cu, w6, hr6, hv6, hc6⟩ := copy_run (c := cz) HLZ.out (by omega) (by omega) (IZ.out (w5.alloc (.cells #[] 3)) ((Below.refl _ _).alloc (Nat.le_refl _) _))
    have i6 : Ints w6 (some ⟨gu, 0, none⟩) Z := by
      have ho : w6.ownsRow w5.heap.size 3 1 (.slice (some ⟨gu, 0, none⟩) Z.length cu) Z.length (Z.map (Value.int .i64)) := by rw [HLZ.out]; exact hv6
      exact owned_at ho
    have hbw6 := hbw5.trans (hc6.mono hbw5.size)
    have hx6 := hx5.trans (hc6.mono hx5.size)
    clear hv6
    go_wp2_with (at_builtin; refine wpList_append_wanted (by rfl) _ _ _ _ rfl _ _ _ _ rfl rfl hr6 ?_)
    refine (CU.out _ _ w6 i6).mono ?_
    rintro e w7 ⟨⟨v, rfl, ho⟩, hc7⟩
    obtain ⟨gy, cy, rfl, _, _⟩ := ho.form (by omega)
    have hbw7 := hbw6.trans (hc7.mono hbw6.size)
    have hx7 := hx6.trans (hc7.mono hx6.size)
    have hz7 := hc6.trans (hc7.mono hc6.size)
    have i7 : Ints w7 (some ⟨gy, 0, none⟩) xs := by
      have ho' : w7.ownsRow w6.heap.size 3 1 (.slice (some ⟨gy, 0, none⟩) xs.length cy) xs.length (xs.map (Value.int .i64)) := by rw [HLX.out]; exact ho
      exact owned_at ho'
    clear ho hr6 hc6 hc7 hbw6 hx6 i6 CU hbw5 hx5
    go_wp2_with fail
    refine (CM.out _ _ _ _ w7 i7 (IX.out w7 hx7)).mono ?_
    rintro e w8 ⟨rfl, hc8⟩
    have hbw8 := hbw7.trans (hc8.mono hbw7.size)
    have hx8 := hx7.trans (hc8.mono hx7.size)
    have hz8 := hz7.trans (hc8.mono hz7.size)
    have HX8 : Hid (∀ w', Below w8.heap.size w8 w' → ∀ k, k < 16 → w'.cell? ⟨g2, k, none⟩ = some (.int .i64 (xs.getD k 0))) := fun w' hb k hk => by
      rcases IX.out w' (hx8.trans (hb.mono hx8.size)) with h0 | ⟨b, off, e, _, hcc⟩
      · have := HLX.out; rw [h0] at this; cases this
      · cases e; have := hcc k (by rw [HLX.out]; exact hk); rwa [Nat.zero_add] at this
    have HZ8 : Hid (∀ w', Below w8.heap.size w8 w' → ∀ k, k < 16 → w'.cell? ⟨gz, k, none⟩ = some (.int .i64 (xs.getD (scF 4 k) 0))) := fun w' hb k hk => by
      rw [← HZ.out k hk]
      rcases IZ.out w' (hz8.trans (hb.mono hz8.size)) with h0 | ⟨b, off, e, _, hcc⟩
      · have := HLZ.out; rw [h0] at this; cases this
      · cases e; have := hcc k (by rw [HLZ.out]; exact hk); rwa [Nat.zero_add] at this
    clear hc8 hbw7 hx7 hz7 i7 CM IX IZ HZ hx8 hz8
    go_wp2_with (at_make; refine wpList_make_full _ (by rfl) _ _ 30 (by rfl) w8.heap.size 4 t0 (.bool false) 1 Try.underlying30 ht0 hy0 hy1 .i64 .i64 _ _ 16 (by rfl) (by rfl) (by rfl) (by rfl) (by rw [hy2]; omega) (by unfold maxLen; omega) (Nat.le_refl _) ?_; intro w9 hown9 hgrow9)
    rw [seen_made 4] at hown9
    have hb9 : Below w8.heap.size w8 w9 := (Below.refl _ _).grown hgrow9 (Nat.le_refl _) (fun j hj => by cases hj)
    clear hgrow9
    go_loopw [11, 12] (fun la i wr => ∃ k : Nat, k ≤ 16 ∧ i = .int .i64 (k : Int) ∧ la = .int .i64 (lastF 4 k : Int) ∧ wr.ownsRow w8.heap.size 4 1 (.slice (some ⟨w8.heap.size, 0, none⟩) 16 16) 16 (seenL 4 16 k) ∧ Below w8.heap.size w8 wr) (fun _ i _ => 16 - (intOf i).toNat)
    case atStart => exact ⟨0, by omega, rfl, rfl, hown9, hb9⟩
    case round =>
      obtain ⟨k, hk, rfl, rfl, hown, hb⟩ := hrel
      clear hown9 hb9
      have k0 : (0 : Int) ≤ (k : Int) := by omega
      by_cases hlt : k < 16
      · have k1 : (k : Int) < 16 := by omega
        obtain ⟨f1, f2, f3⟩ := HD.out k hlt
        have hp := HP.out k hlt
        have CTk : Hid (Calls Try.prog 17 #[.int .i64 4, .int .i64 (k : Int)] wr (fun e w'' => e = .returned (.int .i64 (scF 4 k : Int)) ∧ Below wr.heap.size wr w'')) := CT.out k wr hlt
        have HE : Hid (lastF 4 (k + 1) = scF 4 k / 4 + scF 4 k % 4) := rfl
        have hdg : dgF 4 k = scF 4 k / 4 + scF 4 k % 4 := rfl
        have HSe : Hid ((seenL 4 16 k).set (scF 4 k) (.bool true) = seenL 4 16 (k + 1)) := seen_set HSd.out 16 k hlt
        have HSa : Hid ((seenL 4 16 k)[scF 4 k]? = some (.bool false)) := seen_at HSd.out hlt hp
        rw [hdg] at f1 f2 f3
        obtain ⟨z, hz⟩ : ∃ z, scF 4 k = z := ⟨_, rfl⟩
        rw [hz] at f1 f2 f3 hp CTk HE HSe HSa
        have z0 : (0 : Int) ≤ (z : Int) := by omega
        have z1 : (z : Int) < 16 := by omega
        have q1 : (lastF 4 k : Int) ≤ (z : Int) / 4 + (z : Int) % 4 := by omega
        have q2 : (z : Int) / 4 + (z : Int) % 4 ≤ (lastF 4 k : Int) + 1 := by omega
        have q3 : (z : Int) / 4 + (z : Int) % 4 ≤ 14 := by omega
        have q4 : (0 : Int) ≤ (lastF 4 k : Int) := by omega
        have x1 : decide (16 ≤ z) = false := decide_eq_false (by omega)
        have x2 : decide ((16 : Int) ≤ (z : Int)) = false := decide_eq_false (by omega)
        have x3 : decide ((z : Int) < 0) = false := decide_eq_false (by omega)
        clear hdg f1 f2 f3
        go_wp2_with (go_at_call 17; refine CTk.out.mono ?_; rintro e w10 ⟨rfl, hc10⟩; have hb10 := hb.trans (hc10.mono hb.size); have hown10 := owned_below hown hc10; have e1 := HX8.out w10 hb10 z hp; have e2 := HZ8.out w10 hb10 k hlt; have e3 := (hown10.cellAt z (by omega)).trans HSa.out; have hfz := hown10.frozenAt z; have HO := hown10; have HB := hb10; clear hc10 hown10 hb10)
        have HF : Hid (∀ m, ((w10.drewN m).setCell ⟨w8.heap.size, z, none⟩ (.bool true)).ownsRow w8.heap.size 4 1 (.slice (some ⟨w8.heap.size, 0, none⟩) 16 16) 16 (seenL 4 16 (k + 1)) ∧ Below w8.heap.size w8 ((w10.drewN m).setCell ⟨w8.heap.size, z, none⟩ (.bool true))) := fun m => by
          have hm := owned_below HO (below_drewK (Below.refl _ w10) m)
          have hst := hm.stored z (.bool true)
          rw [HSe.out] at hst
          have hbm := below_drewK HB m
          exact ⟨hst.1, hbm.grown hst.2 hbm.size (fun j hj => by cases hj; exact Nat.le_refl _)⟩
        clear HO HB
        go_quiet (fail)
        go_wp2_with fail
        go_quiet (fail)
        go_wp2_with fail
        refine ⟨⟨k + 1, by omega, by go_num, by rw [HE.out]; congr 1, (HF.out _).1, (HF.out _).2⟩, ?_⟩
        simp [intOf]; omega
      · obtain rfl : k = 16 := by omega
        go_wp2
        go_ret
        exact ⟨rfl, hbw8.trans (hb.mono hbw8.size)⟩
  · have hs : SideOk 8 := by simp [SideOk]
    have CD : Hid (∀ w' B, CodeRow w' B a len → B ≤ w'.heap.size → Calls Try.prog 13 #[.slice a len cap, .int .i64 64] w' (fun e w'' => ∃ (g : Nat) (f : Nat → Int), e = .returned (.slice (some ⟨g, 0, none⟩) 64 64) ∧ (∀ j, -5000 ≤ f j ∧ f j ≤ 5000) ∧ w''.ownsRow w'.heap.size 3 1 (.slice (some ⟨g, 0, none⟩) 64 64) 64 ((listF 64 f).map (Value.int .i64)) ∧ Below w'.heap.size w' w'')) := fun w' B h hB => drawLevels_any a len cap B 64 w' h hB (by omega) (by omega)
    go_wp2_with fail
    refine (CD.out w1 _ HC1.out hb1.size).mono ?_
    rintro e w2 ⟨g2, f, rfl, _, hown2, hb2⟩
    have hbw2 := hb1.trans (hb2.mono hb1.size)
    have hlX : (listF 64 f).length = 64 := listF_length 64 f
    obtain ⟨xs, hxs⟩ : ∃ xs, listF 64 f = xs := ⟨_, rfl⟩
    rw [hxs] at hlX hown2
    have HLX : Hid (xs.length = 64) := hlX
    have IX : Hid (∀ w', Below w2.heap.size w2 w' → Ints w' (some ⟨g2, 0, none⟩) xs) := fun w' hb => by
      have ho : w2.ownsRow w1.heap.size 3 1 (.slice (some ⟨g2, 0, none⟩) xs.length 64) xs.length (xs.map (Value.int .i64)) := by rw [HLX.out]; exact hown2
      exact (owned_at ho).below hb (Nat.le_refl _)
    obtain ⟨m1, m2, m3, m4⟩ := scan_back hs hlX
    have HZ : Hid (∀ k, k < 64 → (listF 64 (fun i => xs.getD (scF 8 i) 0)).getD k 0 = xs.getD (scF 8 k) 0) := fun k hk => listF_get _ hk
    have hlZ : (listF 64 (fun i => xs.getD (scF 8 i) 0)).length = 64 := listF_length _ _
    have CS0 : ∀ (q : Option Addr) (k : Nat) w', Ints w' q xs → Calls Try.prog 14 #[.int .i64 8, .slice q xs.length k] w' (fun e w'' => (∃ v, e = .returned (.tuple #[v, .bool (scOk 8 xs)]) ∧ w''.ownsRow w'.heap.size 3 1 v (scanL 8 xs).length ((scanL 8 xs).map (Value.int .i64))) ∧ Below w'.heap.size w' w'') := fun q k w' hi => implScanned 8 q k xs w' hi (by rw [HLX.out]; unfold maxLen; omega)
    have CU0 : ∀ (q : Option Addr) (k : Nat) w', Ints w' q (listF 64 (fun i => xs.getD (scF 8 i) 0)) → Calls Try.prog 15 #[.int .i64 8, .slice q (listF 64 (fun i => xs.getD (scF 8 i) 0)).length k] w' (fun e w'' => (∃ v, e = .returned (.tuple #[v, .bool (scOk 8 (listF 64 (fun i => xs.getD (scF 8 i) 0)))]) ∧ w''.ownsRow w'.heap.size 3 1 v (backL 8 (listF 64 (fun i => xs.getD (scF 8 i) 0))).length ((backL 8 (listF 64 (fun i => xs.getD (scF 8 i) 0))).map (Value.int .i64))) ∧ Below w'.heap.size w' w'') := fun q k w' hi => implUnscanned 8 q k _ w' hi (by rw [hlZ]; unfold maxLen; omega)
    rw [show scOk 8 xs = true from m1, show scanL 8 xs = listF 64 (fun i => xs.getD (scF 8 i) 0) from m2] at CS0
    rw [show scOk 8 (listF 64 (fun i => xs.getD (scF 8 i) 0)) = true from m3, show backL 8 (listF 64 (fun i => xs.getD (scF 8 i) 0)) = xs from m4] at CU0
    rw [hlX, hlZ] at CS0
    rw [hlX, hlZ] at CU0
    obtain ⟨Z, hZ⟩ : ∃ Z, listF 64 (fun i => xs.getD (scF 8 i) 0) = Z := ⟨_, rfl⟩
    rw [hZ] at CS0 CU0 HZ hlZ
    have HLZ : Hid (Z.length = 64) := hlZ
    have CS : Hid (∀ (q : Option Addr) (k : Nat) w', Ints w' q xs → Calls Try.prog 14 #[.int .i64 8, .slice q 64 k] w' (fun e w'' => (∃ v, e = .returned (.tuple #[v, .bool true]) ∧ w''.ownsRow w'.heap.size 3 1 v 64 (Z.map (Value.int .i64))) ∧ Below w'.heap.size w' w'')) := CS0
    have CU : Hid (∀ (q : Option Addr) (k : Nat) w', Ints w' q Z → Calls Try.prog 15 #[.int .i64 8, .slice q 64 k] w' (fun e w'' => (∃ v, e = .returned (.tuple #[v, .bool true]) ∧ w''.ownsRow w'.heap.size 3 1 v 64 (xs.map (Value.int .i64))) ∧ Below w'.heap.size w' w'')) := CU0
    have CM : Hid (∀ (q q' : Option Addr) (k k' : Nat) w', Ints w' q xs → Ints w' q' xs → Calls Try.prog 16 #[.slice q 64 k, .slice q' 64 k'] w' (fun e w'' => e = .returned (.bool true) ∧ Below w'.heap.size w' w'')) := fun q q' k k' w' hi hi' => by
      have := sameInts_any q q' k k' xs w' hi hi' (by rw [HLX.out]; omega)
      rwa [HLX.out] at this
    have CT : Hid (∀ (k : Nat) w', k < 64 → Calls Try.prog 17 #[.int .i64 8, .int .i64 (k : Int)] w' (fun e w'' => e = .returned (.int .i64 (scF 8 k : Int)) ∧ Below w'.heap.size w' w'')) := fun k w' hk => by
      have := implScanAt_yes 8 hs (k : Int) w'
      rwa [show atF ((8 : Nat) : Int) (k : Int) = (scF 8 k : Int) by unfold atF; rw [if_pos ⟨by omega, by omega, by omega⟩]; simp] at this
    have HP : Hid (∀ k, k < 64 → scF 8 k < 64) := fun k hk => scF_lt hs hk
    have HD : Hid (∀ k, k < 64 → lastF 8 k ≤ dgF 8 k ∧ dgF 8 k ≤ lastF 8 k + 1 ∧ dgF 8 k ≤ 14) := diag_facts hs
    have HSd : Hid (SideOk 8) := hs
    clear hown2 hxs hlX hlZ hZ m1 m2 m3 m4 CS0 CU0 hs hb2 hb1 CD
    obtain ⟨gv, cv, w4, hr4, hv4, hc4⟩ := copy_run (c := 64) HLX.out (by omega) (by omega) (IX.out (w2.alloc (.cells #[] 3)) ((Below.refl _ _).alloc (Nat.le_refl _) _))
    have i4 : Ints w4 (some ⟨gv, 0, none⟩) xs := by
      have ho : w4.ownsRow w2.heap.size 3 1 (.slice (some ⟨gv, 0, none⟩) xs.length cv) xs.length (xs.map (Value.int .i64)) := by rw [HLX.out]; exact hv4
      exact owned_at ho
    have hbw4 := hbw2.trans (hc4.mono hbw2.size)
    clear hv4
    go_wp2_with (at_builtin; refine wpList_append_wanted (by rfl) _ _ _ _ rfl _ _ _ _ rfl rfl hr4 ?_)
    refine (CS.out _ _ w4 i4).mono ?_
    rintro e w5 ⟨⟨v, rfl, ho⟩, hc5⟩
    obtain ⟨gz, cz, rfl, _, _⟩ := ho.form (by omega)
    have hbw5 := hbw4.trans (hc5.mono hbw4.size)
    have hx5 : Below w2.heap.size w2 w5 := hc4.trans (hc5.mono hc4.size)
    have IZ : Hid (∀ w', Below w5.heap.size w5 w' → Ints w' (some ⟨gz, 0, none⟩) Z) := fun w' hb => by
      have ho' : w5.ownsRow w4.heap.size 3 1 (.slice (some ⟨gz, 0, none⟩) Z.length cz) Z.length (Z.map (Value.int .i64)) := by rw [HLZ.out]; exact ho
      exact (owned_at ho').below hb (Nat.le_refl _)
    clear ho hr4 hc4 hc5 hbw4 i4 CS hbw2
    obtain ⟨gu, cu, w6, hr6, hv6, hc6⟩ := copy_run (c := cz) HLZ.out (by omega) (by omega) (IZ.out (w5.alloc (.cells #[] 3)) ((Below.refl _ _).alloc (Nat.le_refl _) _))
    have i6 : Ints w6 (some ⟨gu, 0, none⟩) Z := by
      have ho : w6.ownsRow w5.heap.size 3 1 (.slice (some ⟨gu, 0, none⟩) Z.length cu) Z.length (Z.map (Value.int .i64)) := by rw [HLZ.out]; exact hv6
      exact owned_at ho
    have hbw6 := hbw5.trans (hc6.mono hbw5.size)
    have hx6 := hx5.trans (hc6.mono hx5.size)
    clear hv6
    go_wp2_with (at_builtin; refine wpList_append_wanted (by rfl) _ _ _ _ rfl _ _ _ _ rfl rfl hr6 ?_)
    refine (CU.out _ _ w6 i6).mono ?_
    rintro e w7 ⟨⟨v, rfl, ho⟩, hc7⟩
    obtain ⟨gy, cy, rfl, _, _⟩ := ho.form (by omega)
    have hbw7 := hbw6.trans (hc7.mono hbw6.size)
    have hx7 := hx6.trans (hc7.mono hx6.size)
    have hz7 := hc6.trans (hc7.mono hc6.size)
    have i7 : Ints w7 (some ⟨gy, 0, none⟩) xs := by
      have ho' : w7.ownsRow w6.heap.size 3 1 (.slice (some ⟨gy, 0, none⟩) xs.length cy) xs.length (xs.map (Value.int .i64)) := by rw [HLX.out]; exact ho
      exact owned_at ho'
    clear ho hr6 hc6 hc7 hbw6 hx6 i6 CU hbw5 hx5
    go_wp2_with fail
    refine (CM.out _ _ _ _ w7 i7 (IX.out w7 hx7)).mono ?_
    rintro e w8 ⟨rfl, hc8⟩
    have hbw8 := hbw7.trans (hc8.mono hbw7.size)
    have hx8 := hx7.trans (hc8.mono hx7.size)
    have hz8 := hz7.trans (hc8.mono hz7.size)
    have HX8 : Hid (∀ w', Below w8.heap.size w8 w' → ∀ k, k < 64 → w'.cell? ⟨g2, k, none⟩ = some (.int .i64 (xs.getD k 0))) := fun w' hb k hk => by
      rcases IX.out w' (hx8.trans (hb.mono hx8.size)) with h0 | ⟨b, off, e, _, hcc⟩
      · have := HLX.out; rw [h0] at this; cases this
      · cases e; have := hcc k (by rw [HLX.out]; exact hk); rwa [Nat.zero_add] at this
    have HZ8 : Hid (∀ w', Below w8.heap.size w8 w' → ∀ k, k < 64 → w'.cell? ⟨gz, k, none⟩ = some (.int .i64 (xs.getD (scF 8 k) 0))) := fun w' hb k hk => by
      rw [← HZ.out k hk]
      rcases IZ.out w' (hz8.trans (hb.mono hz8.size)) with h0 | ⟨b, off, e, _, hcc⟩
      · have := HLZ.out; rw [h0] at this; cases this
      · cases e; have := hcc k (by rw [HLZ.out]; exact hk); rwa [Nat.zero_add] at this
    clear hc8 hbw7 hx7 hz7 i7 CM IX IZ HZ hx8 hz8
    go_wp2_with (at_make; refine wpList_make_full _ (by rfl) _ _ 30 (by rfl) w8.heap.size 4 t0 (.bool false) 1 Try.underlying30 ht0 hy0 hy1 .i64 .i64 _ _ 64 (by rfl) (by rfl) (by rfl) (by rfl) (by rw [hy2]; omega) (by unfold maxLen; omega) (Nat.le_refl _) ?_; intro w9 hown9 hgrow9)
    rw [seen_made 8] at hown9
    have hb9 : Below w8.heap.size w8 w9 := (Below.refl _ _).grown hgrow9 (Nat.le_refl _) (fun j hj => by cases hj)
    clear hgrow9
    go_loopw [11, 12] (fun la i wr => ∃ k : Nat, k ≤ 64 ∧ i = .int .i64 (k : Int) ∧ la = .int .i64 (lastF 8 k : Int) ∧ wr.ownsRow w8.heap.size 4 1 (.slice (some ⟨w8.heap.size, 0, none⟩) 64 64) 64 (seenL 8 64 k) ∧ Below w8.heap.size w8 wr) (fun _ i _ => 64 - (intOf i).toNat)
    case atStart => exact ⟨0, by omega, rfl, rfl, hown9, hb9⟩
    case round =>
      obtain ⟨k, hk, rfl, rfl, hown, hb⟩ := hrel
      clear hown9 hb9
      have k0 : (0 : Int) ≤ (k : Int) := by omega
      by_cases hlt : k < 64
      · have k1 : (k : Int) < 64 := by omega
        obtain ⟨f1, f2, f3⟩ := HD.out k hlt
        have hp := HP.out k hlt
        have CTk : Hid (Calls Try.prog 17 #[.int .i64 8, .int .i64 (k : Int)] wr (fun e w'' => e = .returned (.int .i64 (scF 8 k : Int)) ∧ Below wr.heap.size wr w'')) := CT.out k wr hlt
        have HE : Hid (lastF 8 (k + 1) = scF 8 k / 8 + scF 8 k % 8) := rfl
        have hdg : dgF 8 k = scF 8 k / 8 + scF 8 k % 8 := rfl
        have HSe : Hid ((seenL 8 64 k).set (scF 8 k) (.bool true) = seenL 8 64 (k + 1)) := seen_set HSd.out 64 k hlt
        have HSa : Hid ((seenL 8 64 k)[scF 8 k]? = some (.bool false)) := seen_at HSd.out hlt hp
        rw [hdg] at f1 f2 f3
        obtain ⟨z, hz⟩ : ∃ z, scF 8 k = z := ⟨_, rfl⟩
        rw [hz] at f1 f2 f3 hp CTk HE HSe HSa
        have z0 : (0 : Int) ≤ (z : Int) := by omega
        have z1 : (z : Int) < 64 := by omega
        have q1 : (lastF 8 k : Int) ≤ (z : Int) / 8 + (z : Int) % 8 := by omega
        have q2 : (z : Int) / 8 + (z : Int) % 8 ≤ (lastF 8 k : Int) + 1 := by omega
        have q3 : (z : Int) / 8 + (z : Int) % 8 ≤ 14 := by omega
        have q4 : (0 : Int) ≤ (lastF 8 k : Int) := by omega
        have x1 : decide (64 ≤ z) = false := decide_eq_false (by omega)
        have x2 : decide ((64 : Int) ≤ (z : Int)) = false := decide_eq_false (by omega)
        have x3 : decide ((z : Int) < 0) = false := decide_eq_false (by omega)
        clear hdg f1 f2 f3
        go_wp2_with (go_at_call 17; refine CTk.out.mono ?_; rintro e w10 ⟨rfl, hc10⟩; have hb10 := hb.trans (hc10.mono hb.size); have hown10 := owned_below hown hc10; have e1 := HX8.out w10 hb10 z hp; have e2 := HZ8.out w10 hb10 k hlt; have e3 := (hown10.cellAt z (by omega)).trans HSa.out; have hfz := hown10.frozenAt z; have HO := hown10; have HB := hb10; clear hc10 hown10 hb10)
        have HF : Hid (∀ m, ((w10.drewN m).setCell ⟨w8.heap.size, z, none⟩ (.bool true)).ownsRow w8.heap.size 4 1 (.slice (some ⟨w8.heap.size, 0, none⟩) 64 64) 64 (seenL 8 64 (k + 1)) ∧ Below w8.heap.size w8 ((w10.drewN m).setCell ⟨w8.heap.size, z, none⟩ (.bool true))) := fun m => by
          have hm := owned_below HO (below_drewK (Below.refl _ w10) m)
          have hst := hm.stored z (.bool true)
          rw [HSe.out] at hst
          have hbm := below_drewK HB m
          exact ⟨hst.1, hbm.grown hst.2 hbm.size (fun j hj => by cases hj; exact Nat.le_refl _)⟩
        clear HO HB
        go_quiet (fail)
        go_wp2_with fail
        go_quiet (fail)
        go_wp2_with fail
        refine ⟨⟨k + 1, by omega, by go_num, by rw [HE.out]; congr 1, (HF.out _).1, (HF.out _).2⟩, ?_⟩
        simp [intOf]; omega
      · obtain rfl : k = 64 := by omega
        go_wp2
        go_ret
        exact ⟨rfl, hbw8.trans (hb.mono hbw8.size)⟩
end Go.Proofs.Ytknfcfbioabdnaa
