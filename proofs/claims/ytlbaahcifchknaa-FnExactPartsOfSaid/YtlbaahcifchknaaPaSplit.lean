/-
  The walk of impl.splitAtBlanks: it answers the parts of the line, or says that a sign of it is none.
-/
import Derived.Test.YtlbaahcifchknaaPaSpec
import Derived.WalkMore
namespace Go.Proofs.Ytlbaahcifchknaa
open Go.RowKit

def numsOf (l : List UInt8) : List Int := l.map fun x => (x.toNat : Int)
theorem numsOf_length (l : List UInt8) : (numsOf l).length = l.length := by simp [numsOf]
theorem numsOf_snoc (l : List UInt8) (x : UInt8) : numsOf (l ++ [x]) = numsOf l ++ [(x.toNat : Int)] := by simp [numsOf]
theorem str_nums (l : List UInt8) : strOfNums (numsOf l) = ⟨l.toArray⟩ := by
  unfold strOfNums numsOf
  congr 2
  rw [List.map_map]
  conv => rhs; rw [← List.map_id l]
  apply List.map_congr_left
  intro x _
  simp
theorem own_apart {w : World} {B e1 e2 n1 n2 : Nat} {v1 v2 : Value} {xs1 xs2 : List Value} (h1 : w.ownsRow B e1 1 v1 n1 xs1) (h2 : w.ownsRow B e2 1 v2 n2 xs2) (hne : e1 ≠ e2) : v1.ownBlock = none ∨ v1.ownBlock ≠ v2.ownBlock := by
  rcases h1.2 with ⟨rfl, _⟩ | ⟨g, cap, cur, rfl, _, hg, _⟩
  · exact .inl rfl
  · right
    rcases h2.2 with ⟨rfl, _⟩ | ⟨g', cap', cur', rfl, _, hg', _⟩
    · simp [Value.ownBlock]
    · simp only [Value.ownBlock]
      intro h
      simp at h
      subst h
      rw [hg] at hg'
      simp at hg'
      exact hne hg'.2
theorem own_cut {w : World} {B e n : Nat} {g : Option Addr} {n0 c : Nat} {xs : List Value} (h : w.ownsRow B e 1 (.slice g n0 c) n xs) (hn : 0 < n) : w.ownsRow B e 1 (.slice g 0 c) 0 [] := by
  refine ⟨rfl, ?_⟩
  rcases h.2 with ⟨_, h0⟩ | ⟨g', cap, cur, hv, hb, hg, h1, h2, h3, h4⟩
  · omega
  · simp at hv
    obtain ⟨rfl, rfl, rfl⟩ := hv
    exact .inr ⟨g', _, cur, rfl, hb, hg, Nat.zero_le _, h2, h3, by simp⟩
theorem kept_app {wr w1 : World} {B e e2 n n2 : Nat} {v v2 : Value} {xs ys : List Value} {o : Obj} (h : wr.ownsRow B e 1 v n xs) (h2 : wr.ownsRow B e2 1 v2 n2 ys) (hne : e ≠ e2) (hg : (wr.alloc o).grownBy w1 v2.ownBlock) : w1.ownsRow B e 1 v n xs :=
  (h.alloc o).kept hg (own_apart h h2 hne)

def SplitPost (w : World) (s : ByteArray) (e : Ending) (w' : World) : Prop :=
  (s.data.toList.all okByte = true ∧ ∃ g c, e = .returned (.tuple #[.slice g (cutEnd (cutTo s.data.toList)).length c, .bool true]) ∧ w'.ownsRow w.heap.size 9 1 (.slice g (cutEnd (cutTo s.data.toList)).length c) (cutEnd (cutTo s.data.toList)).length (strsOf (cutEnd (cutTo s.data.toList))) ∧ Below w.heap.size w w') ∨
  (s.data.toList.all okByte = false ∧ ∃ v, e = .returned (.tuple #[v, .bool false]) ∧ Below w.heap.size w w')

set_option maxHeartbeats 2000000 in
theorem implSplit (s : ByteArray) (w : World) (hs : s.size ≤ 600) :
    Calls Try.prog 21 #[.string s] w fun e w' => SplitPost w s e w' := by
  obtain ⟨i0, hi0, hz0, hz1, hz2⟩ := info_parts info9
  obtain ⟨j0, hj0, hy0, hy1, hy2⟩ := info_parts info5
  go_enter Try.func21, Try.ntmps21
  go_wp2
  go_step3
  go_wp2
  go_step3
  go_wp2
  go_loopw [4, 5, 6, 7] (fun v p o i wr => ∃ k : Nat, k ≤ s.size ∧ i = .int .i64 k ∧ o = .bool true ∧ (∀ x ∈ s.data.toList.take k, okByte x = true) ∧
      wr.ownsRow w.heap.size 9 1 v (cutTo (s.data.toList.take k)).done.length (strsOf (cutTo (s.data.toList.take k)).done) ∧ wr.ownsRow w.heap.size 5 1 p (cutTo (s.data.toList.take k)).cur.length ((numsOf (cutTo (s.data.toList.take k)).cur).map (Value.int .u8)) ∧ Below w.heap.size w wr)
    (fun _ _ _ i _ => s.size - (intOf i).toNat)
  case atStart =>
    have h5 : ((w.alloc (.cells #[] 9)).alloc (.cells #[] 5)).ownsRow w.heap.size 5 1 (.slice (some ⟨w.heap.size + 1, 0, none⟩) 0 0) 0 [] := by
      have := World.ownsRow_made (base := w.heap.size) (e := 5) (size := 1) (w.alloc (.cells #[] 9)) #[] 0 (by simp) (by unfold maxLen; omega) rfl
      simpa using this
    exact ⟨0, Nat.zero_le _, rfl, rfl, fun x hx => by simp at hx, (World.ownsRow_made w #[] 0 (Nat.le_refl _) (by unfold maxLen; omega) rfl).alloc _, h5, ((Below.refl _ _).alloc (Nat.le_refl _) _).alloc (by simp) _⟩
  case round =>
    obtain ⟨k, hk, rfl, rfl, hall, hp, hc, hb⟩ := hrel
    have HA : Hid (∀ x ∈ s.data.toList.take k, okByte x = true) := hall
    have hcl := cut_len (s.data.toList.take k)
    have htl : (s.data.toList.take k).length = k := by rw [List.length_take]; have : s.data.toList.length = s.size := rfl; omega
    have hdl : (cutTo (s.data.toList.take k)).done.length ≤ 600 := by omega
    have hul : (cutTo (s.data.toList.take k)).cur.length ≤ 600 := by omega
    clear hall hcl htl
    obtain ⟨gc, cc, hv⟩ := owns_form hc
    subst hv
    have hconv := conv_own hc
    by_cases hlt : k < s.size
    · have hl : k < s.data.toList.length := hlt
      by_cases hok : okByte s[k] = false
      · have HN : Hid (s.data.toList.all okByte = false) := by
          show _ = _
          rw [List.all_eq_false]
          exact ⟨s.data.toList[k], List.getElem_mem hl, by rw [show s.data.toList[k] = s[k] from rfl, hok]; simp⟩
        have hcc : (s[k].toNat : Int) < 32 ∨ 126 < (s[k].toNat : Int) := by
          have := hok
          simp [okByte] at this
          omega
        clear hok HA
        rcases hcc with hcc | hcc
        all_goals
          by_cases hcur : (cutTo (s.data.toList.take k)).cur = []
          · have hz : (cutTo (s.data.toList.take k)).cur.length = 0 := by rw [hcur]; rfl
            have HZ : Hid ((cutTo (s.data.toList.take k)).cur = []) := hcur
            have hpos : ¬ (0 : Int) < ((cutTo (s.data.toList.take k)).cur.length : Int) := by omega
            clear hcur hz
            go_wp2
            try rw [Exit.noGoto_ret]
            go_ret2
            exact .inr ⟨HN.out, _, rfl, hb⟩
          · have hpos : (0 : Int) < ((cutTo (s.data.toList.take k)).cur.length : Int) := by have := List.length_pos_iff.2 hcur; omega
            have HZ : Hid ((cutTo (s.data.toList.take k)).cur ≠ []) := hcur
            clear hcur
            go_wp2_with (at_builtin; refine wpList_append_lies _ (by rfl) _ _ 25 (by rfl) w.heap.size 9 i0 (.string ByteArray.empty) 1 16 Try.underlying25 hi0 hz0 hz1 hz2 rfl (by omega) u4 (cutTo (s.data.toList.take k)).done.length _ (by rfl) (hp.alloc _) ⟨wr.heap.size, 0, none⟩ 1 1 [.string (strOfNums (numsOf (cutTo (s.data.toList.take k)).cur))] (by rfl) (by rfl) (World.news_of_block (cs := #[.string (strOfNums (numsOf (cutTo (s.data.toList.take k)).cur))]) (t := 9) (fr := (0, 0)) (heap_alloc_new wr _)) (by simp [Value.oneCell']) (by omega) (by unfold maxLen; omega) (by omega) (by have := hb.size; simp; omega) (wr.heap.size + 1) (by simp) ?_; intro gg cap w1 hp1 hgrow hat hlt2)
            try rw [Exit.noGoto_ret]
            go_ret2
            exact .inr ⟨HN.out, _, rfl, below_app hb hp hgrow⟩

      have hok' : okByte s[k] = true := by simpa using hok
      have HA2 : Hid (∀ x ∈ s.data.toList.take (k + 1), okByte x = true) := by
        intro x hx
        rw [take_snocL _ k hl, List.mem_append] at hx
        rcases hx with hx | hx
        · exact HA.out x hx
        · simp at hx; subst hx; exact hok'
      have h32 : (32 : Int) ≤ (s[k].toNat : Int) := by simp [okByte] at hok'; omega
      have h126 : (s[k].toNat : Int) ≤ 126 := by simp [okByte] at hok'; omega
      clear hok hok' HA
      have HS : Hid (cutTo (s.data.toList.take (k + 1)) = cutStep (cutTo (s.data.toList.take k)) s[k]) := by
        show _ = _
        rw [take_snocL _ k hl, cutTo_snoc]; rfl
      by_cases hx : s[k] = 32
      · have hne : ((s[k].toNat : Int) != 32) = false := by rw [hx]; rfl
        have HX : Hid (s[k] = 32) := hx
        clear hx
        by_cases hcur : (cutTo (s.data.toList.take k)).cur = []
        · have hz : (cutTo (s.data.toList.take k)).cur.length = 0 := by rw [hcur]; rfl
          have hpos : ¬ (0 : Int) < ((cutTo (s.data.toList.take k)).cur.length : Int) := by omega
          have HQ : Hid (cutTo (s.data.toList.take (k + 1)) = cutTo (s.data.toList.take k)) := by
            show _ = _
            rw [HS.out, HX.out, cutStep_blank_none hcur]
          clear hcur hz HS
          go_wp2
          go_roundw
          case rel => exact ⟨k + 1, by omega, by go_num, rfl, HA2.out, by rw [HQ.out]; exact hp, by rw [HQ.out]; exact hc, hb⟩
          case measure => simp [intOf]; omega
        · have hpos : (0 : Int) < ((cutTo (s.data.toList.take k)).cur.length : Int) := by have := List.length_pos_iff.2 hcur; omega
          have HQ : Hid (cutTo (s.data.toList.take (k + 1)) = ⟨(cutTo (s.data.toList.take k)).done ++ [(cutTo (s.data.toList.take k)).cur], []⟩) := by
            show _ = _
            rw [HS.out, HX.out, cutStep_blank_some hcur]
          clear hcur HS
          go_wp2_with (at_builtin; refine wpList_append_lies _ (by rfl) _ _ 25 (by rfl) w.heap.size 9 i0 (.string ByteArray.empty) 1 16 Try.underlying25 hi0 hz0 hz1 hz2 rfl (by omega) u4 (cutTo (s.data.toList.take k)).done.length _ (by rfl) (hp.alloc _) ⟨wr.heap.size, 0, none⟩ 1 1 [.string (strOfNums (numsOf (cutTo (s.data.toList.take k)).cur))] (by rfl) (by rfl) (World.news_of_block (cs := #[.string (strOfNums (numsOf (cutTo (s.data.toList.take k)).cur))]) (t := 9) (fr := (0, 0)) (heap_alloc_new wr _)) (by simp [Value.oneCell']) (by omega) (by unfold maxLen; omega) (by omega) (by have := hb.size; simp; omega) (wr.heap.size + 1) (by simp) ?_; intro gg cap w1 hp1 hgrow hat hlt2)
          have hb1 := below_app hb hp hgrow
          have hc1 := own_cut (kept_app hc hp (by decide) hgrow) (by omega)
          rw [str_nums] at hp1
          have hp2 := owns_snoc hp1 rfl
          clear hp1 hgrow hp hb hc hconv
          go_roundw
          case rel => exact ⟨k + 1, by omega, by go_num, rfl, HA2.out, by rw [HQ.out]; exact hp2, by rw [HQ.out]; exact hc1, hb1⟩
          case measure => simp [intOf]; omega
      · have hne : ((s[k].toNat : Int) != 32) = true := by
          simp
          intro h
          apply hx
          apply UInt8.toNat_inj.1
          simpa using (show s[k].toNat = 32 by omega)
        have HQ : Hid (cutTo (s.data.toList.take (k + 1)) = ⟨(cutTo (s.data.toList.take k)).done, (cutTo (s.data.toList.take k)).cur ++ [s[k]]⟩) := by
          show _ = _
          rw [HS.out, cutStep_other hx]
        clear hx HS
        go_wp2_with (at_builtin; refine wpList_append_lies _ (by rfl) _ _ 32 (by rfl) w.heap.size 5 j0 (.int .u8 0) 1 1 Try.underlying32 hj0 hy0 hy1 hy2 rfl (by omega) (.slice gc (cutTo (s.data.toList.take k)).cur.length cc) (cutTo (s.data.toList.take k)).cur.length _ (by rfl) (hc.alloc _) ⟨wr.heap.size, 0, none⟩ 1 1 [.int .u8 (s[k].toNat : Int)] (by rfl) (by rfl) (World.news_of_block (cs := #[.int .u8 (s[k].toNat : Int)]) (t := 5) (fr := (0, 0)) (heap_alloc_new wr _)) (by simp [Value.oneCell']) (by omega) (by unfold maxLen; omega) (by omega) (by have := hb.size; simp; omega) (wr.heap.size + 1) (by simp) ?_; intro gg cap w1 hc1 hgrow hat hlt2)
        have hb1 := below_app hb hc hgrow
        have hp1 := kept_app hp hc (by decide) hgrow
        have hc2 : w1.ownsRow w.heap.size 5 1 (.slice (some ⟨gg, 0, none⟩) ((cutTo (s.data.toList.take k)).cur.length + 1) cap) (cutTo (s.data.toList.take (k + 1))).cur.length ((numsOf (cutTo (s.data.toList.take (k + 1))).cur).map (Value.int .u8)) := by
          rw [HQ.out]
          simpa [numsOf_snoc] using hc1
        have hp2 : w1.ownsRow w.heap.size 9 1 u4 (cutTo (s.data.toList.take (k + 1))).done.length (strsOf (cutTo (s.data.toList.take (k + 1))).done) := by rw [HQ.out]; exact hp1
        clear hc1 hgrow hc hb hp hp1
        go_roundw
        case rel => exact ⟨k + 1, by omega, by go_num, rfl, HA2.out, hp2, hc2, hb1⟩
        case measure => simp [intOf]; omega
    · obtain rfl : k = s.size := by omega
      have e : s.data.toList.take s.size = s.data.toList := List.take_of_length_le (Nat.le_of_eq rfl)
      have HN : Hid (s.data.toList.all okByte = true) := by
        show _ = _
        rw [List.all_eq_true]
        have := HA.out
        rw [e] at this
        exact this
      have HE : Hid (cutEnd (cutTo s.data.toList) = cutEnd (cutTo (s.data.toList.take s.size))) := by
        show _ = _
        rw [e]
      clear HA e
      by_cases hcur : (cutTo (s.data.toList.take s.size)).cur = []
      · have hz : (cutTo (s.data.toList.take s.size)).cur.length = 0 := by rw [hcur]; rfl
        have HZ : Hid ((cutTo (s.data.toList.take s.size)).cur = []) := hcur
        have hpos : ¬ (0 : Int) < ((cutTo (s.data.toList.take s.size)).cur.length : Int) := by omega
        clear hcur hz
        go_wp2
        try rw [Exit.noGoto_ret]
        go_ret2
        have hE : cutEnd (cutTo s.data.toList) = (cutTo (s.data.toList.take s.size)).done := by rw [HE.out]; unfold cutEnd; rw [if_pos HZ.out]
        obtain ⟨gp, cp, hv⟩ := owns_form hp
        subst hv
        refine .inl ⟨HN.out, gp, cp, ?_, ?_, hb⟩
        · rw [hE]; rfl
        · rw [hE]; exact hp
      · have hpos : (0 : Int) < ((cutTo (s.data.toList.take s.size)).cur.length : Int) := by have := List.length_pos_iff.2 hcur; omega
        have HZ : Hid ((cutTo (s.data.toList.take s.size)).cur ≠ []) := hcur
        clear hcur
        go_wp2_with (at_builtin; refine wpList_append_lies _ (by rfl) _ _ 25 (by rfl) w.heap.size 9 i0 (.string ByteArray.empty) 1 16 Try.underlying25 hi0 hz0 hz1 hz2 rfl (by omega) u4 (cutTo (s.data.toList.take s.size)).done.length _ (by rfl) (hp.alloc _) ⟨wr.heap.size, 0, none⟩ 1 1 [.string (strOfNums (numsOf (cutTo (s.data.toList.take s.size)).cur))] (by rfl) (by rfl) (World.news_of_block (cs := #[.string (strOfNums (numsOf (cutTo (s.data.toList.take s.size)).cur))]) (t := 9) (fr := (0, 0)) (heap_alloc_new wr _)) (by simp [Value.oneCell']) (by omega) (by unfold maxLen; omega) (by omega) (by have := hb.size; simp; omega) (wr.heap.size + 1) (by simp) ?_; intro gg cap w1 hp1 hgrow hat hlt2)
        try rw [Exit.noGoto_ret]
        go_ret2
        have hE : cutEnd (cutTo s.data.toList) = (cutTo (s.data.toList.take s.size)).done ++ [(cutTo (s.data.toList.take s.size)).cur] := by rw [HE.out]; unfold cutEnd; rw [if_neg HZ.out]
        have hlen : (cutEnd (cutTo s.data.toList)).length = (cutTo (s.data.toList.take s.size)).done.length + 1 := by rw [hE]; simp
        refine .inl ⟨HN.out, some ⟨gg, 0, none⟩, cap, ?_, ?_, below_app hb hp hgrow⟩
        · rw [hlen]; rfl
        · rw [hlen, hE]
          rw [str_nums] at hp1
          exact owns_snoc hp1 (by simp)
end Go.Proofs.Ytlbaahcifchknaa
