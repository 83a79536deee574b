/-
  The walk of laws.FnJoined: what is joined of drawn dots and their difference to others are these others.
-/
import Derived.Test.YtlejfkjanllgbaaJoinKit
import Derived.Test.YtlejfkjanllgbaaWantVal
import Derived.Test.YtlejfkjanllgbaaCodeVal
import Derived.Test.YtlejfkjanllgbaaMoreByte
import Derived.Test.YtlejfkjanllgbaaSameOne
import Derived.Deep.RegionLaw
import Derived.Deep.CutRange
import Derived.Deep.AppendLies
namespace Go.Proofs.Ytlejfkjanllgbaa
open Go.RowKit
set_option linter.unusedVariables false
set_option maxRecDepth 20000

theorem joined_back {ws gs : List Int} (hw : wantB ws = true) (hg : wantB gs = true) : joinL gs (listF 64 (fun i => ws.getD i 0 - gs.getD i 0)) = ws := by
  obtain ⟨l1, d1⟩ := wantB_of hw
  obtain ⟨l2, d2⟩ := wantB_of hg
  have hb : ∀ i, i < 64 → (0 ≤ ws.getD i 0 ∧ ws.getD i 0 ≤ 255) ∧ 0 ≤ gs.getD i 0 ∧ gs.getD i 0 ≤ 255 := fun i hi => ⟨dotsB_iff.1 d1 i (by omega), dotsB_iff.1 d2 i (by omega)⟩
  have hs : sqB 10000000 (listF 64 (fun i => ws.getD i 0 - gs.getD i 0)) = true := by
    rw [sqB_iff]
    refine ⟨listF_length _ _, inB_iff.2 fun i hi => ?_⟩
    rw [listF_length] at hi
    rw [listF_get _ hi]
    have := hb i hi
    omega
  rw [joinL_yes (jnB_iff.2 ⟨hg, hs⟩)]
  refine (listF_congr fun i hi => ?_).trans ((congrArg (fun n => listF n (fun i => ws.getD i 0)) l1.symm).trans (listF_self ws))
  rw [listF_get _ hi]
  have := hb i hi
  rw [brF_id (by omega)]
  omega
theorem joined_none {gs : List Int} (hg : wantB gs = true) : joinL gs (listF 64 (fun _ => 0)) = gs := by
  obtain ⟨l2, d2⟩ := wantB_of hg
  have hs : sqB 10000000 (listF 64 (fun _ => (0 : Int))) = true := by
    rw [sqB_iff]
    refine ⟨listF_length _ _, inB_iff.2 fun i hi => ?_⟩
    rw [listF_length] at hi
    rw [listF_get _ hi]
    omega
  rw [joinL_yes (jnB_iff.2 ⟨hg, hs⟩)]
  refine (listF_congr fun i hi => ?_).trans ((congrArg (fun n => listF n (fun i => gs.getD i 0)) l2.symm).trans (listF_self gs))
  rw [listF_get _ hi]
  have := dotsB_iff.1 d2 i (by omega)
  rw [brF_id (by omega)]
  omega
theorem CodeRow.moreBase {w : World} {B B' : Nat} {a : Option Addr} {len : Nat} (h : CodeRow w B a len) (hB : B ≤ B') : CodeRow w B' a len := by
  refine ⟨h.1, ?_⟩
  rcases h.2 with h0 | ⟨b, off, ha, hlt, hc⟩
  · exact .inl h0
  · exact .inr ⟨b, off, ha, Nat.lt_of_lt_of_le hlt hB, hc⟩
/-- The numbers of a known row, to be appended to another. -/
theorem news_of_row {w : World} {b off : Nat} {xs : List Int} (h : ∀ i, i < xs.length → w.cell? ⟨b, off + i, none⟩ = some (.int .i64 (xs.getD i 0))) : ∀ j u, (xs.map (Value.int .i64))[j]? = some u → w.cell? ((⟨b, off, none⟩ : Addr).add j) = some u := fun j u hu => by
  have hadd : (⟨b, off, none⟩ : Addr).add j = ⟨b, off + j, none⟩ := by unfold Addr.add; split <;> simp_all
  obtain ⟨hj, hv⟩ := List.getElem?_eq_some_iff.1 hu
  rw [List.length_map] at hj
  rw [hadd, h j hj, ← hv, List.getD_eq_getElem?_getD, List.getElem?_eq_getElem hj]
  simp

/-- Numbers that lie in another block than the one that grew. -/
theorem Ints.grown_at {w w' : World} {b : Nat} {xs : List Int} {row : Option Nat} (h : Ints w (some ⟨b, 0, none⟩) xs) (hg : w.grownBy w' row) (hne : some b ≠ row) : Ints w' (some ⟨b, 0, none⟩) xs := by
  rcases h with h | ⟨b', off, e, hlt, hc⟩
  · exact .inl h
  · cases e
    exact .inr ⟨b, 0, rfl, Nat.lt_of_lt_of_le hlt hg.size, fun i hi => by
      rw [show w'.cell? ⟨b, 0 + i, none⟩ = w.cell? ⟨b, 0 + i, none⟩ by simp only [World.cell?, hg.block b hlt hne]]
      exact hc i hi⟩
/-- append in a region, behind a guard that holds. -/
theorem step_append_wanted {P : Program} {w : World} {ops : Array Oper} {o : Oper} {a : Act} {K : Act → World → Prop} {Q : Exit → Act → World → Prop} {E : Prop} (hw : Region.wanted o (yielded ops a.tmps) = true) (s x : Operand) (t : TypeId)
    (ho : o.op = .call { callee := .builtin .append, args := #[s, x], argTypes := #[t, t] })
    (base : Nat) (e : TypeId) (i : TypeInfo) (z : Value) (size bytes : Nat) (ht : P.underlying t = some (.slice e)) (hi : P.info? e = some i) (hz : i.zero = some z)
    (hsize : i.size = size) (hby : i.bytes = bytes) (hzs : z.cells.size = size) (hsz : 0 < size)
    (v : Value) (n : Nat) (xs : List Value) (hs : a.eval s = v) (hown : w.ownsRow base e size v n xs)
    (ad : Addr) (m c : Nat) (news : List Value) (hx : a.eval x = .slice (some ad) m c) (hl : news.length = m * size) (hnews : ∀ j u, news[j]? = some u → w.cell? (ad.add j) = some u) (h1 : ∀ u ∈ news, u.oneCell' = true)
    (hm : 0 < m) (h63 : n + m ≤ maxLen) (hbytes : (n + m) * bytes ≤ 140737488355328) (hbase : base ≤ w.heap.size) (H : Nat) (hH : w.heap.size = H)
    (h : ∀ g cap w', w'.ownsRow base e size (.slice (some ⟨g, 0, none⟩) (n + m) cap) (n + m) (xs ++ news) → w.grownBy w' v.ownBlock → (v.ownBlock = some g ∨ g = H) → g < w'.heap.size → K (a.put o.dst (.slice (some ⟨g, 0, none⟩) (n + m) cap)) w') :
    if Region.wanted o (yielded ops a.tmps) = true then Oper.wp P o a w K Q else E := by
  rw [if_pos hw]
  exact wp_append_lies w s x t ho base e i z size bytes ht hi hz hsize hby hzs hsz v n xs hs hown ad m c news hx hl hnews h1 hm h63 hbytes hbase H hH h

set_option maxHeartbeats 3200000 in
theorem fnJoined_walk (a : Option Addr) (len cap : Nat) (w : World) (hc : CodeIn w a len cap) :
    Calls Try.prog 3 #[.slice a len cap] w fun e w' => e = .returned (.bool true) ∧ Below w.heap.size w w' := by
  obtain ⟨i0, hi0, hz0, hz1, hz2⟩ := info_parts infoI
  obtain ⟨hlen, hnil, hrow⟩ := id hc
  obtain ⟨zs, hzl, hcv⟩ := codeV_of hrow
  have HCI : Hid (CodeIn w a len cap) := hc
  have CW : Hid (Calls Try.prog 7 #[.slice a len cap] w fun e w'' => (∃ p q, e = .returned (.slice p 64 q) ∧ Ints w'' p (dW zs)) ∧ Below w.heap.size w w'') := by
    have := drawWant_val a cap w.heap.size zs w hcv (Nat.le_refl _)
    rwa [hzl] at this
  have HW := dW_want zs
  have hwl := dW_len zs
  generalize dW zs = ws at *
  clear hcv hrow hzl hnil hc
  go_enter Try.func3, Try.ntmps3
  go_wp2_with fail
  refine (big_any a len cap w hlen).mono ?_
  rintro e w0 ⟨rfl, hw⟩
  subst w0
  go_wp2_with fail
  refine CW.out.mono ?_
  rintro e w1 ⟨⟨wp, wq, rfl, iw⟩, b1⟩
  have HC1 : CodeIn w1 a len cap := ⟨hlen, HCI.out.2.1, (HCI.out.2.2.below b1).moreBase b1.size⟩
  obtain ⟨gg, cg, w2, happ, hcr, hc2⟩ := more_byte 5 (by omega) (by omega) w1 w1 a len cap HC1 (Below.refl _ _)
  obtain ⟨ys, hyl, hcv⟩ := codeV_of hcr
  have CG : Hid (Calls Try.prog 7 #[.slice (some ⟨gg, 0, none⟩) (len + 1) cg] w2 fun e w'' => (∃ p q, e = .returned (.slice p 64 q) ∧ Ints w'' p (dW ys)) ∧ Below w2.heap.size w2 w'') := by
    have := drawWant_val (some ⟨gg, 0, none⟩) cg w2.heap.size ys w2 hcv (Nat.le_refl _)
    rwa [hyl] at this
  have HG := dW_want ys
  have hgl := dW_len ys
  generalize dW ys = gs at *
  have b2 := b1.trans (hc2.mono b1.size)
  have iw2 := iw.below hc2 (Nat.le_refl _)
  clear hcr hcv hyl HC1 HCI CW b1 iw
  go_wp2_with (at_builtin; refine wpList_append_knownM (by rfl) _ _ _ _ (by rfl) _ _ _ _ (by rfl) (by rfl) happ ?_)
  refine CG.out.mono ?_
  rintro e w3 ⟨⟨gp, gq, rfl, ig⟩, hb⟩
  have b3 := b2.trans (hb.mono b2.size)
  have iw3 := iw2.below hb (Nat.le_refl _)
  clear hb b2 iw2 hc2 happ CG
  have HJ1 : Hid (joinL gs (listF 64 (fun i => ws.getD i 0 - gs.getD i 0)) = ws) := joined_back HW HG
  have HJ2 : Hid (joinL gs (listF 64 (fun _ => 0)) = gs) := joined_none HG
  have HB : Hid (∀ i, i < 64 → (0 ≤ ws.getD i 0 ∧ ws.getD i 0 ≤ 255) ∧ 0 ≤ gs.getD i 0 ∧ gs.getD i 0 ≤ 255) := fun i hi => ⟨dotsB_iff.1 (wantB_of HW).2 i (by omega), dotsB_iff.1 (wantB_of HG).2 i (by omega)⟩
  have HL : Hid (ws.length = 64 ∧ gs.length = 64) := ⟨hwl, hgl⟩
  rcases iw3 with h0 | ⟨wb, wo, rfl, hwb, hwc⟩
  · rw [h0] at hwl; cases hwl
  rcases ig with h0 | ⟨gb, go, rfl, hgb, hgc⟩
  · rw [h0] at hgl; cases hgl
  have HK : Hid (∀ w', Below w3.heap.size w3 w' → (∀ i, i < 64 → w'.cell? ⟨wb, wo + i, none⟩ = some (.int .i64 (ws.getD i 0))) ∧ (∀ i, i < 64 → w'.cell? ⟨gb, go + i, none⟩ = some (.int .i64 (gs.getD i 0))) ∧ Ints w' (some ⟨wb, wo, none⟩) ws ∧ Ints w' (some ⟨gb, go, none⟩) gs ∧ Below w.heap.size w w') := fun w' hb =>
    ⟨fun i hi => (hb.cell (p := ⟨wb, wo + i, none⟩) hwb).trans (hwc i (by omega)), fun i hi => (hb.cell (p := ⟨gb, go + i, none⟩) hgb).trans (hgc i (by omega)), .inr ⟨wb, wo, rfl, Nat.lt_of_lt_of_le hwb hb.size, fun i hi => (hb.cell (p := ⟨wb, wo + i, none⟩) hwb).trans (hwc i hi)⟩, .inr ⟨gb, go, rfl, Nat.lt_of_lt_of_le hgb hb.size, fun i hi => (hb.cell (p := ⟨gb, go + i, none⟩) hgb).trans (hgc i hi)⟩, b3.trans (hb.mono b3.size)⟩
  clear hwb hwc hgb hgc b3 HW HG hwl hgl hlen
  have o0 := own_none w3 (B := w3.heap.size) (Nat.le_refl _)
  have hb0 := (Below.refl w3.heap.size w3).alloc (Nat.le_refl _) (.cells #[] 3)
  generalize hs : w3.heap.size = s at *
  go_wp2_with fail
  generalize World.alloc w3 _ = V at *
  go_loopw [5, 6] (fun v i wr => ∃ k : Nat, k ≤ 64 ∧ i = .int .i64 (k : Int) ∧ wr.ownsRow s 3 1 v k ((listF k (fun i => ws.getD i 0 - gs.getD i 0)).map (Value.int .i64)) ∧ Below s w3 wr) (fun _ i _ => 64 - (intOf i).toNat)
  case atStart => exact ⟨0, by omega, rfl, o0, hb0⟩
  case round =>
    obtain ⟨k, hk, rfl, hown, hb⟩ := hrel
    clear o0 hb0
    by_cases hlt : k < 64
    · have l0 : (0 : Int) ≤ (k : Int) := by omega
      have l1 : (k : Int) < 64 := by omega
      have e1 := (HK.out wr hb).1 k hlt
      have e2 := (HK.out wr hb).2.1 k hlt
      obtain ⟨⟨p0, p1⟩, q0, q1⟩ := HB.out k hlt
      have HLk : Hid ((listF k (fun i => ws.getD i 0 - gs.getD i 0)).map (Value.int .i64) ++ [.int .i64 (ws.getD k 0 - gs.getD k 0)] = (listF (k + 1) (fun i => ws.getD i 0 - gs.getD i 0)).map (Value.int .i64)) := listF_end k (fun i => ws.getD i 0 - gs.getD i 0)
      have HE : Hid (∀ w', Below s w3 w' → w'.cell? ⟨wb, wo + k, none⟩ = some (.int .i64 (ws.getD k 0)) ∧ w'.cell? ⟨gb, go + k, none⟩ = some (.int .i64 (gs.getD k 0))) := fun w' hb => ⟨(HK.out w' hb).1 k hlt, (HK.out w' hb).2.1 k hlt⟩
      have hsz : s ≤ wr.heap.size := by rw [← hs]; exact hb.size
      generalize listF k (fun i => ws.getD i 0 - gs.getD i 0) = Lk at *
      generalize ws.getD k 0 = y at *
      generalize gs.getD k 0 = z at *
      have hw1 : IntKind.i64.wrap (y - z) = y - z := IntWalk.i64_in _ ⟨by omega, by omega⟩
      go_wp2_with fail
      go_region_held3 (fun w' => w'.cell? ⟨wb, wo + k, none⟩ = some (.int .i64 y) ∧ w'.cell? ⟨gb, go + k, none⟩ = some (.int .i64 z))
        (first | (with_reducible exact hS) | go_keep)
        ((refine step_append_lies _ (by rfl) _ _ _ (by rfl) s 3 i0 (.int .i64 0) 1 8 Try.underlying24 hi0 hz0 hz1 hz2 rfl (by omega) u5 k _ (by rfl) ((hown.alloc _).drew)
              ⟨wr.heap.size, 0, none⟩ 1 1 [.int .i64 (y - z)] (by rfl) (by rfl) (World.news_of_block (cs := #[.int .i64 (y - z)]) (t := 3) (fr := (0, 0)) (heap_alloc_new wr _)) (by simp [Value.oneCell'])
              (by omega) (by unfold maxLen; omega) (by omega) (by simp; omega) (wr.heap.size + 1) (by simp) ?_; intro g6 c6 w6 hown6 hgrow hat hlt6; have hb6 : Below s w3 w6 := ((hb.alloc hsz _).drew).grown hgrow (by simp; omega) (base_of_own hown); have hS := HE.out w6 hb6))
      all_goals
        obtain ⟨e3, e4⟩ := hS
        rw [HLk.out] at hown6
        clear hgrow hat
        go_wp2
        refine ⟨⟨k + 1, by omega, by go_num, hown6, hb6⟩, ?_⟩
        simp [intOf]; omega
    · obtain rfl : k = 64 := by omega
      obtain ⟨gz, cz, rfl, _, _⟩ := hown.form (by omega)
      have C1 : Hid (∀ (p q : Option Addr) (c d : Nat) (w' : World), Ints w' p gs → Ints w' q (listF 64 (fun i => ws.getD i 0 - gs.getD i 0)) → Calls Try.prog 9 #[.slice p 64 c, .slice q 64 d] w' fun e w'' => (∃ p' c', e = .returned (.slice p' 64 c') ∧ Ints w'' p' ws) ∧ Below w'.heap.size w' w'') := fun p q c d w' h1 h2 => by
        have := implJoined p q c d gs _ w' h1 h2 (by rw [HL.out.2]; decide) (by rw [listF_length]; decide)
        rw [HJ1.out, HL.out.1, HL.out.2, listF_length] at this
        refine this.mono ?_
        rintro e w'' ⟨⟨v, rfl, ho⟩, hc⟩
        rw [← HL.out.1] at ho
        obtain ⟨p', c', rfl, hi, _⟩ := ints_of_owns ho
        exact ⟨⟨p', c', by rw [HL.out.1], hi⟩, hc⟩
      have C2 : Hid (∀ (p q : Option Addr) (c d : Nat) (w' : World), Ints w' p gs → Ints w' q (listF 64 (fun _ => 0)) → Calls Try.prog 9 #[.slice p 64 c, .slice q 64 d] w' fun e w'' => (∃ p' c', e = .returned (.slice p' 64 c') ∧ Ints w'' p' gs) ∧ Below w'.heap.size w' w'') := fun p q c d w' h1 h2 => by
        have := implJoined p q c d gs _ w' h1 h2 (by rw [HL.out.2]; decide) (by rw [listF_length]; decide)
        rw [HJ2.out, HL.out.2, listF_length] at this
        refine this.mono ?_
        rintro e w'' ⟨⟨v, rfl, ho⟩, hc⟩
        rw [← HL.out.2] at ho
        obtain ⟨p', c', rfl, hi, _⟩ := ints_of_owns ho
        exact ⟨⟨p', c', by rw [HL.out.2], hi⟩, hc⟩
      have S1 : Hid (∀ (p q : Option Addr) (c d : Nat) (w' : World), Ints w' p ws → Ints w' q ws → Calls Try.prog 8 #[.slice p 64 c, .slice q 64 d] w' fun e w'' => e = .returned (.bool true) ∧ Below w'.heap.size w' w'') := fun p q c d w' h1 h2 => by
        have := sameInts_any p q c d ws w' h1 h2 (by rw [HL.out.1]; decide)
        rwa [HL.out.1] at this
      have S2 : Hid (∀ (p q : Option Addr) (c d : Nat) (w' : World), Ints w' p gs → Ints w' q gs → Calls Try.prog 8 #[.slice p 64 c, .slice q 64 d] w' fun e w'' => e = .returned (.bool true) ∧ Below w'.heap.size w' w'') := fun p q c d w' h1 h2 => by
        have := sameInts_any p q c d gs w' h1 h2 (by rw [HL.out.2]; decide)
        rwa [HL.out.2] at this
      have HD : Hid (∀ w', Below wr.heap.size wr w' → Below s w3 w' ∧ Ints w' (some ⟨gz, 0, none⟩) (listF 64 (fun i => ws.getD i 0 - gs.getD i 0))) := fun w' h => ⟨hb.trans (h.mono (by rw [← hs]; exact hb.size)), by
        have ho := owned_below hown h
        exact owned_at (xs := listF 64 (fun i => ws.getD i 0 - gs.getD i 0)) (by rw [listF_length]; exact ho)⟩
      have HLM : Hid ((gs.map (Value.int .i64)).length = 64 * 1) := by show _ = _; rw [List.length_map, HL.out.2]
      have HON : Hid (∀ u ∈ gs.map (Value.int .i64), u.oneCell' = true) := fun u hu => by
        obtain ⟨x, _, rfl⟩ := List.mem_map.1 hu
        rfl
      have HNW : Hid (∀ w', Below s w3 w' → ∀ j u, (gs.map (Value.int .i64))[j]? = some u → w'.cell? ((⟨gb, go, none⟩ : Addr).add j) = some u) := fun w' hb => news_of_row (fun i hi => (HK.out w' hb).2.1 i (by have := HL.out.2; omega))
      have lit3 : (wr.drew.alloc (.cells #[] 3)).ownsRow wr.heap.size 3 1 (.slice (some ⟨wr.heap.size, 0, none⟩) 0 0) 0 (([] : List Int).map (Value.int .i64)) := World.ownsRow_lit wr.drew #[] 0 (Nat.le_refl _) (by unfold maxLen; omega) rfl
      have hbL : Below wr.heap.size wr (wr.drew.alloc (.cells #[] 3)) := (Below.refl wr.heap.size wr).drew.alloc (Nat.le_refl _) _
      obtain ⟨Z0, hZ0⟩ : ∃ Z0, madeCells (Value.int .i64 0).cells (64 * 1) = Z0 := ⟨_, rfl⟩
      have hmk : ∀ W : World, (Instr.makeSlice 24 (.int .i64 64) (.int .i64 64)).run Try.prog W = .ok (.slice (some ⟨W.heap.size, 0, none⟩) 64 64) (W.alloc (.cells Z0 3)) := fun W => by
        have := run_make (P := Try.prog) W 24 3 i0 (.int .i64 0) Try.underlying24 hi0 hz0 .i64 .i64 64 64 (by omega) (by omega) (by rw [hz2]; omega) (by omega)
        rw [hz1] at this
        rw [← hZ0]
        exact this
      have HZM : Hid (∀ W : World, Ints (W.alloc (.cells Z0 3)) (some ⟨W.heap.size, 0, none⟩) (listF 64 (fun _ => 0)) ∧ Below W.heap.size W (W.alloc (.cells Z0 3))) := fun W => ⟨by
        have ho : (W.alloc (.cells Z0 3)).ownsRow W.heap.size 3 1 (.slice (some ⟨W.heap.size, 0, none⟩) 64 64) 64 Z0.toList := World.ownsRow_lit W Z0 64 (Nat.le_refl _) (by unfold maxLen; omega) (by rw [← hZ0, size_madeCells])
        have e : Z0.toList = (listF 64 (fun _ => 0)).map (Value.int .i64) := by
          rw [← hZ0, upF_made (fun _ => 0), upF_none]
        rw [e] at ho
        exact owned_at (xs := listF 64 (fun _ => 0)) (by rw [listF_length]; exact ho), (Below.refl _ _).alloc (Nat.le_refl _) _⟩
      have HZB : Hid (∀ W : World, Ints ((W.alloc (.cells #[] 3)).alloc (.cells Z0 3)) (some ⟨W.heap.size + 1, 0, none⟩) (listF 64 (fun _ => 0))) := fun W => by
        have q := (HZM.out (W.alloc (.cells #[] 3))).1
        rwa [World.size_alloc] at q
      have HZC : Hid (∀ W : World, Ints ((W.alloc (.cells Z0 3)).alloc (.cells #[] 3)) (some ⟨W.heap.size, 0, none⟩) (listF 64 (fun _ => 0))) := fun W => (HZM.out W).1.below ((Below.refl _ _).alloc (Nat.le_refl _) (.cells #[] 3)) (Nat.le_refl _)
      have HLC : Hid (∀ W : World, ((W.alloc (.cells Z0 3)).alloc (.cells #[] 3)).ownsRow W.heap.size 3 1 (.slice (some ⟨W.heap.size + 1, 0, none⟩) 0 0) 0 []) := fun W => by
        have q := World.ownsRow_lit (W.alloc (.cells Z0 3)) #[] (base := W.heap.size) (e := 3) (size := 1) 0 (by simp) (by unfold maxLen; omega) rfl
        rwa [World.size_alloc] at q
      clear hZ0
      have NW1 := HNW.out _ (HD.out _ hbL).1
      clear hown
      go_wp2_with fail
      go_region_law (first
        | (refine step_append_lies _ (by rfl) _ _ _ (by rfl) wr.heap.size 3 i0 (.int .i64 0) 1 8 Try.underlying24 hi0 hz0 hz1 hz2 rfl (by omega) (.slice (some ⟨wr.heap.size, 0, none⟩) 0 0) 0 _ (by rfl) lit3 ⟨gb, go, none⟩ 64 gq (gs.map (Value.int .i64)) (by rfl) HLM.out NW1 HON.out (by omega) (by unfold maxLen; omega) (by omega) (by simp) (wr.heap.size + 1) (by simp) ?_; intro g5 c5 w5 hown5 hgrow hat hlt5; have hb5 : Below wr.heap.size wr w5 := hbL.grown hgrow (by simp) (fun k hk => (lit3.lt k hk).1); have J5 : Ints w5 (some ⟨g5, 0, none⟩) gs := owned_at (xs := gs) (by rw [HL.out.2]; exact hown5))
        | (refine step_append_wanted (by kernel_rfl) _ _ _ (by rfl) w7.heap.size 3 i0 (.int .i64 0) 1 8 Try.underlying24 hi0 hz0 hz1 hz2 rfl (by omega) (.slice (some ⟨w7.heap.size, 0, none⟩) 0 0) 0 _ (by rfl) (World.ownsRow_lit w7 #[] 0 (Nat.le_refl w7.heap.size) (by unfold maxLen; omega) rfl : (w7.alloc (.cells #[] 3)).ownsRow w7.heap.size 3 1 (.slice (some ⟨w7.heap.size, 0, none⟩) 0 0) 0 []) ⟨gb, go, none⟩ 64 gq (gs.map (Value.int .i64)) (by rfl) HLM.out (HNW.out _ (HD.out _ (hb7.alloc hb7.size (.cells #[] 3))).1) HON.out (by omega) (by unfold maxLen; omega) (by omega) (by simp; try omega) (w7.heap.size + 1) (by simp) ?_; intro g8 c8 w8 hown8 hgrow8 hat8 hlt8; have hc8 : Below wr.heap.size wr w8 := (hb7.alloc hb7.size (.cells #[] 3)).grown hgrow8 (by have := hb7.size; simp; omega) (fun k hk => by have e := ((World.ownsRow_lit w7 #[] 0 (Nat.le_refl w7.heap.size) (by unfold maxLen; omega) rfl : (w7.alloc (.cells #[] 3)).ownsRow w7.heap.size 3 1 (.slice (some ⟨w7.heap.size, 0, none⟩) 0 0) 0 []).lt k hk).1; have := hb7.size; omega); have J8 : Ints w8 (some ⟨g8, 0, none⟩) gs := owned_at (xs := gs) (by rw [HL.out.2]; exact hown8); obtain ⟨JZ, hzb⟩ := HZM.out w8; have hb9 := hc8.trans (hzb.mono hc8.size); have J9 := J8.below hzb (Nat.le_refl _))
        | (refine step_append_wanted (by kernel_rfl) _ _ _ (by rfl) w7.heap.size 3 i0 (.int .i64 0) 1 8 Try.underlying24 hi0 hz0 hz1 hz2 rfl (by omega) (.slice (some ⟨w7.heap.size, 0, none⟩) 0 0) 0 _ (by rfl) (((World.ownsRow_lit w7 #[] 0 (Nat.le_refl w7.heap.size) (by unfold maxLen; omega) rfl : (w7.alloc (.cells #[] 3)).ownsRow w7.heap.size 3 1 (.slice (some ⟨w7.heap.size, 0, none⟩) 0 0) 0 [])).alloc (.cells Z0 3)) ⟨gb, go, none⟩ 64 gq (gs.map (Value.int .i64)) (by rfl) HLM.out (HNW.out _ (HD.out _ ((hb7.alloc hb7.size (.cells #[] 3)).alloc (by have := hb7.size; simp; omega) (.cells Z0 3))).1) HON.out (by omega) (by unfold maxLen; omega) (by omega) (by simp; try omega) (w7.heap.size + 1 + 1) (by simp) ?_; intro g8 c8 w8 hown8 hgrow8 hat8 hlt8; have hc8 : Below wr.heap.size wr w8 := ((hb7.alloc hb7.size (.cells #[] 3)).alloc (by have := hb7.size; simp; omega) (.cells Z0 3)).grown hgrow8 (by have := hb7.size; simp; omega) (fun k hk => by have e := ((((World.ownsRow_lit w7 #[] 0 (Nat.le_refl w7.heap.size) (by unfold maxLen; omega) rfl : (w7.alloc (.cells #[] 3)).ownsRow w7.heap.size 3 1 (.slice (some ⟨w7.heap.size, 0, none⟩) 0 0) 0 [])).alloc (.cells Z0 3)).lt k hk).1; have := hb7.size; omega); have J8 : Ints w8 (some ⟨g8, 0, none⟩) gs := owned_at (xs := gs) (by rw [HL.out.2]; exact hown8); have hb9 := hc8; have J9 := J8; have JZ : Ints w8 (some ⟨w7.heap.size + 1, 0, none⟩) (listF 64 (fun _ => 0)) := Ints.grown_at (HZB.out w7) hgrow8 (by intro e; have e' : w7.heap.size + 1 = w7.heap.size := Option.some.inj e; omega))
        | (refine step_append_wanted (by kernel_rfl) _ _ _ (by rfl) w7.heap.size 3 i0 (.int .i64 0) 1 8 Try.underlying24 hi0 hz0 hz1 hz2 rfl (by omega) (.slice (some ⟨w7.heap.size + 1, 0, none⟩) 0 0) 0 _ (by rfl) (HLC.out w7) ⟨gb, go, none⟩ 64 gq (gs.map (Value.int .i64)) (by rfl) HLM.out (HNW.out _ (HD.out _ ((hb7.alloc hb7.size (.cells Z0 3)).alloc (by have := hb7.size; simp; omega) (.cells #[] 3))).1) HON.out (by omega) (by unfold maxLen; omega) (by omega) (by simp; try omega) (w7.heap.size + 1 + 1) (by simp) ?_; intro g8 c8 w8 hown8 hgrow8 hat8 hlt8; have hc8 : Below wr.heap.size wr w8 := ((hb7.alloc hb7.size (.cells Z0 3)).alloc (by have := hb7.size; simp; omega) (.cells #[] 3)).grown hgrow8 (by have := hb7.size; simp; omega) (fun k hk => by have e := ((HLC.out w7).lt k hk).1; have := hb7.size; omega); have J8 : Ints w8 (some ⟨g8, 0, none⟩) gs := owned_at (xs := gs) (by rw [HL.out.2]; exact hown8); have hb9 := hc8; have J9 := J8; have JZ : Ints w8 (some ⟨w7.heap.size, 0, none⟩) (listF 64 (fun _ => 0)) := Ints.grown_at (HZC.out w7) hgrow8 (by intro e; have e' : w7.heap.size = w7.heap.size + 1 := Option.some.inj e; omega))
        | (go_simp; go_at_call 9; refine (C2.out _ _ _ _ _ J9 JZ).mono ?_; rintro e w10 ⟨⟨p10, c10, rfl, i10⟩, hr10⟩; have hb10 := hb9.trans (hr10.mono hb9.size))
        | (go_simp; go_at_call 8; refine (S2.out _ _ _ _ _ i10 (HK.out w10 (HD.out w10 hb10).1).2.2.2.1).mono ?_; rintro e w11 ⟨rfl, hr11⟩; have hb11 := hb10.trans (hr11.mono hb10.size))
        | (go_simp; go_at_call 9; refine (C1.out _ _ _ _ _ J5 (HD.out w5 hb5).2).mono ?_; rintro e w6 ⟨⟨p6, c6, rfl, i6⟩, hr⟩; have hb6 := hb5.trans (hr.mono hb5.size))
        | (go_simp; go_at_call 8; refine (S1.out _ _ _ _ _ i6 (HK.out w6 (HD.out w6 hb6).1).2.2.1).mono ?_; rintro e w7 ⟨rfl, hr7⟩; have hb7 := hb6.trans (hr7.mono hb6.size)))
      all_goals
        have hfin := (HK.out w11 (HD.out w11 hb11).1).2.2.2.2
        clear hmk
        go_wp2
        go_ret
        exact ⟨rfl, hfin⟩
end Go.Proofs.Ytlejfkjanllgbaa
