/-
  The walk of spec.UnitsIn.
-/
import Derived.Test.YtabpdiekmljceaaDoorUnitsImpl
import Derived.Test.YtabpdiekmljceaaDoorUnitSpec
namespace Go.Proofs.YtabpdiekmljceaaDoor
open Go.RowKit
set_option linter.unusedVariables false
attribute [local go_sem ↓] Go.wp_at_zero Go.wp_at_succ

theorem here_far {s : ByteArray} {k : Nat} (h : s.size ≤ k + 2) : ¬ HereL (nums s) k := fun x => by
  have := here_lt x
  rw [nums_length] at this
  omega
theorem here_at {s : ByteArray} {k : Nat} (h0 : k < s.size) (h1 : k + 1 < s.size) (h2 : k + 2 < s.size) : HereL (nums s) k ↔ (s[k].toNat : Int) = 0 ∧ (s[k + 1].toNat : Int) = 0 ∧ (s[k + 2].toNat : Int) = 1 := by
  unfold HereL
  rw [nums_getD s k 7 h0, nums_getD s (k + 1) 7 h1, nums_getD s (k + 2) 7 h2]

set_option maxRecDepth 20000 in
set_option maxHeartbeats 6400000 in
theorem specUnitsIn (s : ByteArray) (w : World) (hs : s.size ≤ 1048576) :
    Calls Tryd.prog 17 #[.string s] w fun e w' => UnitsPost (unitsOf (nums s)) w e w' := by
  obtain ⟨i0, hi0, hz0, hz1, hz2⟩ := info_parts infoS
  by_cases hbig : 60000 < s.size
  · have HU : Hid (unitsOf (nums s) = []) := by
      show _ = _
      unfold unitsOf; rw [if_pos (by rw [nums_length]; exact hbig)]
    go_enter Tryd.func17, Tryd.ntmps17
    go_wp2
    go_ret
    rw [HU.out]
    exact ⟨_, rfl, World.ownsRow_made w #[] 0 (Nat.le_refl _) (by unfold maxLen; omega) rfl, (Below.refl _ _).alloc (Nat.le_refl _) _⟩
  have hs6 : (s.size : Int) ≤ 60000 := by omega
  go_enter Tryd.func17, Tryd.ntmps17
  go_wp2
  go_loopw [3, 4, 5] (fun v bg i wr => ∃ (k : Nat) (acc : List (List Int)) (av : Option Addr) (cv : Nat) (z : Int), i = .int .i64 k ∧ bg = .int .i64 z ∧ v = .slice av acc.length cv ∧ (acc.length : Int) ≤ 400 ∧ -1 ≤ z ∧ z ≤ 60010 ∧ (k : Int) ≤ 60001 ∧ Hid (ScanSt (nums s) (unitsOf (nums s)) acc z k) ∧ wr.ownsRow w.heap.size 9 1 (.slice av acc.length cv) acc.length (txts acc) ∧ Below w.heap.size w wr)
    (fun _ _ i _ => 60010 - (intOf i).toNat)
  case atStart => exact ⟨0, [], _, _, -1, rfl, rfl, rfl, by simp, by omega, by omega, by omega, scan_start _ (by rw [nums_length]; omega), World.ownsRow_made w #[] 0 (Nat.le_refl _) (by unfold maxLen; omega) rfl, (Below.refl _ _).alloc (Nat.le_refl _) _⟩
  case round =>
    obtain ⟨k, acc, av, cv, z, rfl, rfl, rfl, hac, hzl, hzu, hk6, HSC, hown, hb⟩ := hrel
    have hbs := hb.size
    by_cases hkn : k ≤ s.size
    · have hkn' : (k : Int) ≤ (s.size : Int) := by omega
      by_cases hfar : (s.size : Int) ≤ (k : Int) + 2
      · by_cases hlt : (k : Int) < (s.size : Int)
        · have HSC1 : Hid (ScanSt (nums s) (unitsOf (nums s)) acc z (k + 1)) := scan_skip HSC.out (by rw [nums_length]; omega) (here_far (by omega))
          clear HSC
          go_wp2
          go_roundw
          case rel => exact ⟨k + 1, acc, av, cv, z, by go_num, rfl, rfl, hac, hzl, hzu, by omega, HSC1.out, hown, hb⟩
          case measure => simp [intOf]; omega
        · have hon : HereL (nums s) k ∨ k = (nums s).length := .inr (by rw [nums_length]; omega)
          rcases scan_on HSC.out (by rw [nums_length]; exact hkn) hon with ⟨rfl, hsc⟩ | ⟨b, rfl, hbk, hsc⟩
          · have HSC1 : Hid (ScanSt (nums s) (unitsOf (nums s)) acc (k + 3) (k + 1)) := hsc
            clear hsc hon HSC
            go_wp2
            go_roundw
            case rel => exact ⟨k + 1, acc, av, cv, (k : Int) + 3, by go_num, by go_num, rfl, hac, by omega, by omega, by omega, HSC1.out, hown, hb⟩
            case measure => simp [intOf]; omega
          · have HSC1 : Hid (ScanSt (nums s) (unitsOf (nums s)) (pushU acc (seg (nums s) b k)) (k + 3) (k + 1)) := hsc
            clear hsc hon HSC
            have hb0 : (0 : Int) ≤ (b : Int) := by omega
            have hbk' : (b : Int) ≤ (k : Int) := by omega
            go_wp2
            go_loopw [7] (fun i wr => ∃ e : Nat, b ≤ e ∧ e ≤ k ∧ i = .int .i64 e ∧ Hid (trimR (seg (nums s) b k) = trimR (seg (nums s) b e)) ∧ wr.ownsRow w.heap.size 9 1 (.slice av acc.length cv) acc.length (txts acc) ∧ Below w.heap.size w wr) (fun i _ => (intOf i).toNat)
            case atStart => exact ⟨k, hbk, Nat.le_refl _, rfl, rfl, hown, hb⟩
            case round =>
              obtain ⟨e, hbe, hek, rfl, HTR, hownI, hbI⟩ := hrel
              clear hown hb
              have e0 : (b : Int) ≤ (e : Int) := by omega
              have e1 : (e : Int) ≤ (s.size : Int) := by omega
              by_cases hgt : (b : Int) < (e : Int)
              · have he1 : e - 1 < s.size := by omega
                by_cases hz : (s[e - 1].toNat : Int) = 0
                · have HTR1 : Hid (trimR (seg (nums s) b k) = trimR (seg (nums s) b (e - 1))) := by
                    show _ = _
                    rw [HTR.out]; exact seg_cut (by omega) (by rw [nums_length]; omega) (by rw [nums_getD s _ 7 he1]; exact hz)
                  have hz' : ((s[e - 1].toNat : Int) == 0) = true := by rw [hz]; rfl
                  clear HTR hz
                  go_wp2
                  go_roundw
                  case rel => exact ⟨e - 1, by omega, by omega, by go_num, HTR1.out, hownI, hbI⟩
                  case measure => simp [intOf]; omega
                · have HS : Hid (trimR (seg (nums s) b k) = seg (nums s) b e) := by
                    show _ = _
                    rw [HTR.out]; exact seg_stop hbe (by rw [nums_length]; omega) (.inr (by rw [nums_getD s _ 7 he1]; exact hz))
                  have hz' : ((s[e - 1].toNat : Int) == 0) = false := by rw [beq_eq_false_iff_ne]; exact hz
                  clear HTR hz
                  obtain ⟨t, hT⟩ : ∃ t : ByteArray, t = s.extract b e := ⟨_, rfl⟩
                  have HT : Hid (t = s.extract b e) := hT
                  have ht : nums t = trimR (seg (nums s) b k) := by rw [hT, nums_extract, HS.out]; rfl
                  have hts : t.size ≤ 60000 := by rw [← nums_length, ht, HS.out]; have := seg_length (nums s) b e; omega
                  have hpu : pushU acc (seg (nums s) b k) = if uneOk (nums t) = true ∧ acc.length < 400 then acc ++ [une 0 (nums t)] else acc := by unfold pushU; rw [ht]
                  by_cases hok : uneOk (nums t) = true
                  · obtain ⟨y, hY⟩ : ∃ y, y = strOfNums (une 0 (nums t)) := ⟨_, rfl⟩
                    have hun : Hid (∀ w, Calls Tryd.prog 28 #[.string (s.extract b e)] w fun e w' => e = .returned (.tuple #[.string y, .bool true]) ∧ Below w.heap.size w w') := fun w => by
                      rw [← hT, hY, ← uneV_yes hok]; exact specUnescaped t w (by omega)
                    by_cases h4 : acc.length < 400
                    · have HSC2 : Hid (ScanSt (nums s) (unitsOf (nums s)) (acc ++ [une 0 (nums t)]) (k + 3) (k + 1)) := by have := HSC1.out; rw [hpu, if_pos ⟨hok, h4⟩] at this; exact this
                      have HTX : Hid (txts (acc ++ [une 0 (nums t)]) = txts acc ++ [.string y]) := by show _ = _; rw [txts_snoc, hY]
                      have h4' : (acc.length : Int) < 400 := by omega
                      clear hpu hok ht hT hY HSC1 HS hts
                      go_wp2_with (first
                        | (go_at_call 28; refine (hun.out _).mono ?_; rintro e3 w3 ⟨rfl, hb3⟩; have hown3 := row_belowI hownI hb3; have hb4 := hbI.trans (hb3.mono hbI.size); have hbs4 := hb4.size; clear hownI hbI hb3)
                        | (at_builtin; refine wpList_append_lies _ (by rfl) _ _ 24 (by rfl) w.heap.size 9 i0 (.string ByteArray.empty) 1 16 Tryd.underlying24 hi0 hz0 hz1 hz2 rfl (by omega) _ acc.length _ (by rfl) (hown3.alloc _) ⟨w3.heap.size, 0, none⟩ 1 1 [.string y] (by rfl) (by rfl) (World.news_of_block (cs := #[.string y]) (t := 9) (fr := (0, 0)) (heap_alloc_new w3 _)) (by simp [Value.oneCell']) (by omega) (by unfold maxLen; omega) (by omega) (by simp <;> omega) (w3.heap.size + 1) (by simp) ?_; intro gg cp w4 hown4 hgrow hat hlt2))
                      have hown5 : w4.ownsRow w.heap.size 9 1 (.slice (some ⟨gg, 0, none⟩) (acc ++ [une 0 (nums t)]).length cp) (acc ++ [une 0 (nums t)]).length (txts (acc ++ [une 0 (nums t)])) := by rw [HTX.out]; simpa using hown4
                      have hb5 := (hb4.alloc hbs4 _).grown hgrow (by simp; omega) (fun j hj => (hown3.lt j hj).1)
                      clear hown4 hgrow hat hlt2 hown3 hb4 HTX
                      go_roundw
                      case rel => exact ⟨k + 1, acc ++ [une 0 (nums t)], _, _, (k : Int) + 3, by go_num, by go_num, by simp, by simp; omega, by omega, by omega, by omega, HSC2.out, hown5, hb5⟩
                      case measure => simp [intOf]; omega
                    · have HSC2 : Hid (ScanSt (nums s) (unitsOf (nums s)) acc (k + 3) (k + 1)) := by have := HSC1.out; rw [hpu, if_neg (fun x => h4 x.2)] at this; exact this
                      have h4' : decide ((acc.length : Int) < 400) = false := decide_eq_false (by omega)
                      have HAC : Hid ((acc.length : Int) ≤ 400) := hac
                      clear hpu hok ht hT hY HSC1 HS hts h4 hac
                      go_wp2_with (go_at_call 28; refine (hun.out _).mono ?_; rintro e3 w3 ⟨rfl, hb3⟩; have hown3 := row_belowI hownI hb3; have hb4 := hbI.trans (hb3.mono hbI.size); clear hownI hbI hb3)
                      go_roundw
                      case rel => exact ⟨k + 1, acc, _, _, (k : Int) + 3, by go_num, by go_num, rfl, HAC.out, by omega, by omega, by omega, HSC2.out, hown3, hb4⟩
                      case measure => simp [intOf]; omega
                  · have hok' : uneOk (nums t) = false := by simpa using hok
                    have hun : Hid (∀ w, Calls Tryd.prog 28 #[.string (s.extract b e)] w fun e w' => e = .returned (.tuple #[.string ⟨#[]⟩, .bool false]) ∧ Below w.heap.size w w') := fun w => by
                      rw [← hT, ← uneV_no hok']; exact specUnescaped t w (by omega)
                    have HSC2 : Hid (ScanSt (nums s) (unitsOf (nums s)) acc (k + 3) (k + 1)) := by have := HSC1.out; rw [hpu, if_neg (fun x => hok x.1)] at this; exact this
                    clear hpu hok hok' ht hT HSC1 HS hts
                    go_wp2_with (go_at_call 28; refine (hun.out _).mono ?_; rintro e3 w3 ⟨rfl, hb3⟩; have hown3 := row_belowI hownI hb3; have hb4 := hbI.trans (hb3.mono hbI.size); clear hownI hbI hb3)
                    go_roundw
                    case rel => exact ⟨k + 1, acc, _, _, (k : Int) + 3, by go_num, by go_num, rfl, hac, by omega, by omega, by omega, HSC2.out, hown3, hb4⟩
                    case measure => simp [intOf]; omega
              · have HS : Hid (trimR (seg (nums s) b k) = seg (nums s) b e) := by
                  show _ = _
                  rw [HTR.out]; exact seg_stop hbe (by rw [nums_length]; omega) (.inl (by omega))
                clear HTR
                obtain ⟨t, hT⟩ : ∃ t : ByteArray, t = s.extract b e := ⟨_, rfl⟩
                have HT : Hid (t = s.extract b e) := hT
                have ht : nums t = trimR (seg (nums s) b k) := by rw [hT, nums_extract, HS.out]; rfl
                have hts : t.size ≤ 60000 := by rw [← nums_length, ht, HS.out]; have := seg_length (nums s) b e; omega
                have hpu : pushU acc (seg (nums s) b k) = if uneOk (nums t) = true ∧ acc.length < 400 then acc ++ [une 0 (nums t)] else acc := by unfold pushU; rw [ht]
                by_cases hok : uneOk (nums t) = true
                · obtain ⟨y, hY⟩ : ∃ y, y = strOfNums (une 0 (nums t)) := ⟨_, rfl⟩
                  have hun : Hid (∀ w, Calls Tryd.prog 28 #[.string (s.extract b e)] w fun e w' => e = .returned (.tuple #[.string y, .bool true]) ∧ Below w.heap.size w w') := fun w => by
                    rw [← hT, hY, ← uneV_yes hok]; exact specUnescaped t w (by omega)
                  by_cases h4 : acc.length < 400
                  · have HSC2 : Hid (ScanSt (nums s) (unitsOf (nums s)) (acc ++ [une 0 (nums t)]) (k + 3) (k + 1)) := by have := HSC1.out; rw [hpu, if_pos ⟨hok, h4⟩] at this; exact this
                    have HTX : Hid (txts (acc ++ [une 0 (nums t)]) = txts acc ++ [.string y]) := by show _ = _; rw [txts_snoc, hY]
                    have h4' : (acc.length : Int) < 400 := by omega
                    clear hpu hok ht hT hY HSC1 HS hts
                    go_wp2_with (first
                      | (go_at_call 28; refine (hun.out _).mono ?_; rintro e3 w3 ⟨rfl, hb3⟩; have hown3 := row_belowI hownI hb3; have hb4 := hbI.trans (hb3.mono hbI.size); have hbs4 := hb4.size; clear hownI hbI hb3)
                      | (at_builtin; refine wpList_append_lies _ (by rfl) _ _ 24 (by rfl) w.heap.size 9 i0 (.string ByteArray.empty) 1 16 Tryd.underlying24 hi0 hz0 hz1 hz2 rfl (by omega) _ acc.length _ (by rfl) (hown3.alloc _) ⟨w3.heap.size, 0, none⟩ 1 1 [.string y] (by rfl) (by rfl) (World.news_of_block (cs := #[.string y]) (t := 9) (fr := (0, 0)) (heap_alloc_new w3 _)) (by simp [Value.oneCell']) (by omega) (by unfold maxLen; omega) (by omega) (by simp <;> omega) (w3.heap.size + 1) (by simp) ?_; intro gg cp w4 hown4 hgrow hat hlt2))
                    have hown5 : w4.ownsRow w.heap.size 9 1 (.slice (some ⟨gg, 0, none⟩) (acc ++ [une 0 (nums t)]).length cp) (acc ++ [une 0 (nums t)]).length (txts (acc ++ [une 0 (nums t)])) := by rw [HTX.out]; simpa using hown4
                    have hb5 := (hb4.alloc hbs4 _).grown hgrow (by simp; omega) (fun j hj => (hown3.lt j hj).1)
                    clear hown4 hgrow hat hlt2 hown3 hb4 HTX
                    go_roundw
                    case rel => exact ⟨k + 1, acc ++ [une 0 (nums t)], _, _, (k : Int) + 3, by go_num, by go_num, by simp, by simp; omega, by omega, by omega, by omega, HSC2.out, hown5, hb5⟩
                    case measure => simp [intOf]; omega
                  · have HSC2 : Hid (ScanSt (nums s) (unitsOf (nums s)) acc (k + 3) (k + 1)) := by have := HSC1.out; rw [hpu, if_neg (fun x => h4 x.2)] at this; exact this
                    have h4' : decide ((acc.length : Int) < 400) = false := decide_eq_false (by omega)
                    have HAC : Hid ((acc.length : Int) ≤ 400) := hac
                    clear hpu hok ht hT hY HSC1 HS hts h4 hac
                    go_wp2_with (go_at_call 28; refine (hun.out _).mono ?_; rintro e3 w3 ⟨rfl, hb3⟩; have hown3 := row_belowI hownI hb3; have hb4 := hbI.trans (hb3.mono hbI.size); clear hownI hbI hb3)
                    go_roundw
                    case rel => exact ⟨k + 1, acc, _, _, (k : Int) + 3, by go_num, by go_num, rfl, HAC.out, by omega, by omega, by omega, HSC2.out, hown3, hb4⟩
                    case measure => simp [intOf]; omega
                · have hok' : uneOk (nums t) = false := by simpa using hok
                  have hun : Hid (∀ w, Calls Tryd.prog 28 #[.string (s.extract b e)] w fun e w' => e = .returned (.tuple #[.string ⟨#[]⟩, .bool false]) ∧ Below w.heap.size w w') := fun w => by
                    rw [← hT, ← uneV_no hok']; exact specUnescaped t w (by omega)
                  have HSC2 : Hid (ScanSt (nums s) (unitsOf (nums s)) acc (k + 3) (k + 1)) := by have := HSC1.out; rw [hpu, if_neg (fun x => hok x.1)] at this; exact this
                  clear hpu hok hok' ht hT HSC1 HS hts
                  go_wp2_with (go_at_call 28; refine (hun.out _).mono ?_; rintro e3 w3 ⟨rfl, hb3⟩; have hown3 := row_belowI hownI hb3; have hb4 := hbI.trans (hb3.mono hbI.size); clear hownI hbI hb3)
                  go_roundw
                  case rel => exact ⟨k + 1, acc, _, _, (k : Int) + 3, by go_num, by go_num, rfl, hac, by omega, by omega, by omega, HSC2.out, hown3, hb4⟩
                  case measure => simp [intOf]; omega
      · have h0 : k < s.size := by omega
        have h1 : k + 1 < s.size := by omega
        have h2 : k + 2 < s.size := by omega
        have hat := here_at h0 h1 h2
        have hlt : (k : Int) < (s.size : Int) := by omega
        have hfar' : (k : Int) + 2 < (s.size : Int) := by omega
        by_cases x0 : (s[k].toNat : Int) = 0
        case neg =>
          have HSC1 : Hid (ScanSt (nums s) (unitsOf (nums s)) acc z (k + 1)) := scan_skip HSC.out (by rw [nums_length]; omega) (fun x => x0 (hat.1 x).1)
          have x0' : ((s[k].toNat : Int) == 0) = false := by rw [beq_eq_false_iff_ne]; exact x0
          clear HSC hat x0
          go_wp2
          go_roundw
          case rel => exact ⟨k + 1, acc, av, cv, z, by go_num, rfl, rfl, hac, hzl, hzu, by omega, HSC1.out, hown, hb⟩
          case measure => simp [intOf]; omega
        have x0' : ((s[k].toNat : Int) == 0) = true := by rw [x0]; rfl
        by_cases x1 : (s[k + 1].toNat : Int) = 0
        case neg =>
          have HSC1 : Hid (ScanSt (nums s) (unitsOf (nums s)) acc z (k + 1)) := scan_skip HSC.out (by rw [nums_length]; omega) (fun x => x1 (hat.1 x).2.1)
          have x1' : ((s[k + 1].toNat : Int) == 0) = false := by rw [beq_eq_false_iff_ne]; exact x1
          clear HSC hat x0 x1
          go_wp2
          go_roundw
          case rel => exact ⟨k + 1, acc, av, cv, z, by go_num, rfl, rfl, hac, hzl, hzu, by omega, HSC1.out, hown, hb⟩
          case measure => simp [intOf]; omega
        have x1' : ((s[k + 1].toNat : Int) == 0) = true := by rw [x1]; rfl
        by_cases x2 : (s[k + 2].toNat : Int) = 1
        case neg =>
          have HSC1 : Hid (ScanSt (nums s) (unitsOf (nums s)) acc z (k + 1)) := scan_skip HSC.out (by rw [nums_length]; omega) (fun x => x2 (hat.1 x).2.2)
          have x2' : ((s[k + 2].toNat : Int) == 1) = false := by rw [beq_eq_false_iff_ne]; exact x2
          clear HSC hat x0 x1 x2
          go_wp2
          go_roundw
          case rel => exact ⟨k + 1, acc, av, cv, z, by go_num, rfl, rfl, hac, hzl, hzu, by omega, HSC1.out, hown, hb⟩
          case measure => simp [intOf]; omega
        have x2' : ((s[k + 2].toNat : Int) == 1) = true := by rw [x2]; rfl
        have hon : HereL (nums s) k ∨ k = (nums s).length := .inl (hat.2 ⟨x0, x1, x2⟩)
        clear hat x0 x1 x2
        rcases scan_on HSC.out (by rw [nums_length]; exact hkn) hon with ⟨rfl, hsc⟩ | ⟨b, rfl, hbk, hsc⟩
        · have HSC1 : Hid (ScanSt (nums s) (unitsOf (nums s)) acc (k + 3) (k + 1)) := hsc
          clear hsc hon HSC
          go_wp2
          go_roundw
          case rel => exact ⟨k + 1, acc, av, cv, (k : Int) + 3, by go_num, by go_num, rfl, hac, by omega, by omega, by omega, HSC1.out, hown, hb⟩
          case measure => simp [intOf]; omega
        · have HSC1 : Hid (ScanSt (nums s) (unitsOf (nums s)) (pushU acc (seg (nums s) b k)) (k + 3) (k + 1)) := hsc
          clear hsc hon HSC
          have hb0 : (0 : Int) ≤ (b : Int) := by omega
          have hbk' : (b : Int) ≤ (k : Int) := by omega
          go_wp2
          go_loopw [7] (fun i wr => ∃ e : Nat, b ≤ e ∧ e ≤ k ∧ i = .int .i64 e ∧ Hid (trimR (seg (nums s) b k) = trimR (seg (nums s) b e)) ∧ wr.ownsRow w.heap.size 9 1 (.slice av acc.length cv) acc.length (txts acc) ∧ Below w.heap.size w wr) (fun i _ => (intOf i).toNat)
          case atStart => exact ⟨k, hbk, Nat.le_refl _, rfl, rfl, hown, hb⟩
          case round =>
            obtain ⟨e, hbe, hek, rfl, HTR, hownI, hbI⟩ := hrel
            clear hown hb
            have e0 : (b : Int) ≤ (e : Int) := by omega
            have e1 : (e : Int) ≤ (s.size : Int) := by omega
            by_cases hgt : (b : Int) < (e : Int)
            · have he1 : e - 1 < s.size := by omega
              by_cases hz : (s[e - 1].toNat : Int) = 0
              · have HTR1 : Hid (trimR (seg (nums s) b k) = trimR (seg (nums s) b (e - 1))) := by
                  show _ = _
                  rw [HTR.out]; exact seg_cut (by omega) (by rw [nums_length]; omega) (by rw [nums_getD s _ 7 he1]; exact hz)
                have hz' : ((s[e - 1].toNat : Int) == 0) = true := by rw [hz]; rfl
                clear HTR hz
                go_wp2
                go_roundw
                case rel => exact ⟨e - 1, by omega, by omega, by go_num, HTR1.out, hownI, hbI⟩
                case measure => simp [intOf]; omega
              · have HS : Hid (trimR (seg (nums s) b k) = seg (nums s) b e) := by
                  show _ = _
                  rw [HTR.out]; exact seg_stop hbe (by rw [nums_length]; omega) (.inr (by rw [nums_getD s _ 7 he1]; exact hz))
                have hz' : ((s[e - 1].toNat : Int) == 0) = false := by rw [beq_eq_false_iff_ne]; exact hz
                clear HTR hz
                obtain ⟨t, hT⟩ : ∃ t : ByteArray, t = s.extract b e := ⟨_, rfl⟩
                have HT : Hid (t = s.extract b e) := hT
                have ht : nums t = trimR (seg (nums s) b k) := by rw [hT, nums_extract, HS.out]; rfl
                have hts : t.size ≤ 60000 := by rw [← nums_length, ht, HS.out]; have := seg_length (nums s) b e; omega
                have hpu : pushU acc (seg (nums s) b k) = if uneOk (nums t) = true ∧ acc.length < 400 then acc ++ [une 0 (nums t)] else acc := by unfold pushU; rw [ht]
                by_cases hok : uneOk (nums t) = true
                · obtain ⟨y, hY⟩ : ∃ y, y = strOfNums (une 0 (nums t)) := ⟨_, rfl⟩
                  have hun : Hid (∀ w, Calls Tryd.prog 28 #[.string (s.extract b e)] w fun e w' => e = .returned (.tuple #[.string y, .bool true]) ∧ Below w.heap.size w w') := fun w => by
                    rw [← hT, hY, ← uneV_yes hok]; exact specUnescaped t w (by omega)
                  by_cases h4 : acc.length < 400
                  · have HSC2 : Hid (ScanSt (nums s) (unitsOf (nums s)) (acc ++ [une 0 (nums t)]) (k + 3) (k + 1)) := by have := HSC1.out; rw [hpu, if_pos ⟨hok, h4⟩] at this; exact this
                    have HTX : Hid (txts (acc ++ [une 0 (nums t)]) = txts acc ++ [.string y]) := by show _ = _; rw [txts_snoc, hY]
                    have h4' : (acc.length : Int) < 400 := by omega
                    clear hpu hok ht hT hY HSC1 HS hts
                    go_wp2_with (first
                      | (go_at_call 28; refine (hun.out _).mono ?_; rintro e3 w3 ⟨rfl, hb3⟩; have hown3 := row_belowI hownI hb3; have hb4 := hbI.trans (hb3.mono hbI.size); have hbs4 := hb4.size; clear hownI hbI hb3)
                      | (at_builtin; refine wpList_append_lies _ (by rfl) _ _ 24 (by rfl) w.heap.size 9 i0 (.string ByteArray.empty) 1 16 Tryd.underlying24 hi0 hz0 hz1 hz2 rfl (by omega) _ acc.length _ (by rfl) (hown3.alloc _) ⟨w3.heap.size, 0, none⟩ 1 1 [.string y] (by rfl) (by rfl) (World.news_of_block (cs := #[.string y]) (t := 9) (fr := (0, 0)) (heap_alloc_new w3 _)) (by simp [Value.oneCell']) (by omega) (by unfold maxLen; omega) (by omega) (by simp <;> omega) (w3.heap.size + 1) (by simp) ?_; intro gg cp w4 hown4 hgrow hat hlt2))
                    have hown5 : w4.ownsRow w.heap.size 9 1 (.slice (some ⟨gg, 0, none⟩) (acc ++ [une 0 (nums t)]).length cp) (acc ++ [une 0 (nums t)]).length (txts (acc ++ [une 0 (nums t)])) := by rw [HTX.out]; simpa using hown4
                    have hb5 := (hb4.alloc hbs4 _).grown hgrow (by simp; omega) (fun j hj => (hown3.lt j hj).1)
                    clear hown4 hgrow hat hlt2 hown3 hb4 HTX
                    go_roundw
                    case rel => exact ⟨k + 1, acc ++ [une 0 (nums t)], _, _, (k : Int) + 3, by go_num, by go_num, by simp, by simp; omega, by omega, by omega, by omega, HSC2.out, hown5, hb5⟩
                    case measure => simp [intOf]; omega
                  · have HSC2 : Hid (ScanSt (nums s) (unitsOf (nums s)) acc (k + 3) (k + 1)) := by have := HSC1.out; rw [hpu, if_neg (fun x => h4 x.2)] at this; exact this
                    have h4' : decide ((acc.length : Int) < 400) = false := decide_eq_false (by omega)
                    have HAC : Hid ((acc.length : Int) ≤ 400) := hac
                    clear hpu hok ht hT hY HSC1 HS hts h4 hac
                    go_wp2_with (go_at_call 28; refine (hun.out _).mono ?_; rintro e3 w3 ⟨rfl, hb3⟩; have hown3 := row_belowI hownI hb3; have hb4 := hbI.trans (hb3.mono hbI.size); clear hownI hbI hb3)
                    go_roundw
                    case rel => exact ⟨k + 1, acc, _, _, (k : Int) + 3, by go_num, by go_num, rfl, HAC.out, by omega, by omega, by omega, HSC2.out, hown3, hb4⟩
                    case measure => simp [intOf]; omega
                · have hok' : uneOk (nums t) = false := by simpa using hok
                  have hun : Hid (∀ w, Calls Tryd.prog 28 #[.string (s.extract b e)] w fun e w' => e = .returned (.tuple #[.string ⟨#[]⟩, .bool false]) ∧ Below w.heap.size w w') := fun w => by
                    rw [← hT, ← uneV_no hok']; exact specUnescaped t w (by omega)
                  have HSC2 : Hid (ScanSt (nums s) (unitsOf (nums s)) acc (k + 3) (k + 1)) := by have := HSC1.out; rw [hpu, if_neg (fun x => hok x.1)] at this; exact this
                  clear hpu hok hok' ht hT HSC1 HS hts
                  go_wp2_with (go_at_call 28; refine (hun.out _).mono ?_; rintro e3 w3 ⟨rfl, hb3⟩; have hown3 := row_belowI hownI hb3; have hb4 := hbI.trans (hb3.mono hbI.size); clear hownI hbI hb3)
                  go_roundw
                  case rel => exact ⟨k + 1, acc, _, _, (k : Int) + 3, by go_num, by go_num, rfl, hac, by omega, by omega, by omega, HSC2.out, hown3, hb4⟩
                  case measure => simp [intOf]; omega
            · have HS : Hid (trimR (seg (nums s) b k) = seg (nums s) b e) := by
                show _ = _
                rw [HTR.out]; exact seg_stop hbe (by rw [nums_length]; omega) (.inl (by omega))
              clear HTR
              obtain ⟨t, hT⟩ : ∃ t : ByteArray, t = s.extract b e := ⟨_, rfl⟩
              have HT : Hid (t = s.extract b e) := hT
              have ht : nums t = trimR (seg (nums s) b k) := by rw [hT, nums_extract, HS.out]; rfl
              have hts : t.size ≤ 60000 := by rw [← nums_length, ht, HS.out]; have := seg_length (nums s) b e; omega
              have hpu : pushU acc (seg (nums s) b k) = if uneOk (nums t) = true ∧ acc.length < 400 then acc ++ [une 0 (nums t)] else acc := by unfold pushU; rw [ht]
              by_cases hok : uneOk (nums t) = true
              · obtain ⟨y, hY⟩ : ∃ y, y = strOfNums (une 0 (nums t)) := ⟨_, rfl⟩
                have hun : Hid (∀ w, Calls Tryd.prog 28 #[.string (s.extract b e)] w fun e w' => e = .returned (.tuple #[.string y, .bool true]) ∧ Below w.heap.size w w') := fun w => by
                  rw [← hT, hY, ← uneV_yes hok]; exact specUnescaped t w (by omega)
                by_cases h4 : acc.length < 400
                · have HSC2 : Hid (ScanSt (nums s) (unitsOf (nums s)) (acc ++ [une 0 (nums t)]) (k + 3) (k + 1)) := by have := HSC1.out; rw [hpu, if_pos ⟨hok, h4⟩] at this; exact this
                  have HTX : Hid (txts (acc ++ [une 0 (nums t)]) = txts acc ++ [.string y]) := by show _ = _; rw [txts_snoc, hY]
                  have h4' : (acc.length : Int) < 400 := by omega
                  clear hpu hok ht hT hY HSC1 HS hts
                  go_wp2_with (first
                    | (go_at_call 28; refine (hun.out _).mono ?_; rintro e3 w3 ⟨rfl, hb3⟩; have hown3 := row_belowI hownI hb3; have hb4 := hbI.trans (hb3.mono hbI.size); have hbs4 := hb4.size; clear hownI hbI hb3)
                    | (at_builtin; refine wpList_append_lies _ (by rfl) _ _ 24 (by rfl) w.heap.size 9 i0 (.string ByteArray.empty) 1 16 Tryd.underlying24 hi0 hz0 hz1 hz2 rfl (by omega) _ acc.length _ (by rfl) (hown3.alloc _) ⟨w3.heap.size, 0, none⟩ 1 1 [.string y] (by rfl) (by rfl) (World.news_of_block (cs := #[.string y]) (t := 9) (fr := (0, 0)) (heap_alloc_new w3 _)) (by simp [Value.oneCell']) (by omega) (by unfold maxLen; omega) (by omega) (by simp <;> omega) (w3.heap.size + 1) (by simp) ?_; intro gg cp w4 hown4 hgrow hat hlt2))
                  have hown5 : w4.ownsRow w.heap.size 9 1 (.slice (some ⟨gg, 0, none⟩) (acc ++ [une 0 (nums t)]).length cp) (acc ++ [une 0 (nums t)]).length (txts (acc ++ [une 0 (nums t)])) := by rw [HTX.out]; simpa using hown4
                  have hb5 := (hb4.alloc hbs4 _).grown hgrow (by simp; omega) (fun j hj => (hown3.lt j hj).1)
                  clear hown4 hgrow hat hlt2 hown3 hb4 HTX
                  go_roundw
                  case rel => exact ⟨k + 1, acc ++ [une 0 (nums t)], _, _, (k : Int) + 3, by go_num, by go_num, by simp, by simp; omega, by omega, by omega, by omega, HSC2.out, hown5, hb5⟩
                  case measure => simp [intOf]; omega
                · have HSC2 : Hid (ScanSt (nums s) (unitsOf (nums s)) acc (k + 3) (k + 1)) := by have := HSC1.out; rw [hpu, if_neg (fun x => h4 x.2)] at this; exact this
                  have h4' : decide ((acc.length : Int) < 400) = false := decide_eq_false (by omega)
                  have HAC : Hid ((acc.length : Int) ≤ 400) := hac
                  clear hpu hok ht hT hY HSC1 HS hts h4 hac
                  go_wp2_with (go_at_call 28; refine (hun.out _).mono ?_; rintro e3 w3 ⟨rfl, hb3⟩; have hown3 := row_belowI hownI hb3; have hb4 := hbI.trans (hb3.mono hbI.size); clear hownI hbI hb3)
                  go_roundw
                  case rel => exact ⟨k + 1, acc, _, _, (k : Int) + 3, by go_num, by go_num, rfl, HAC.out, by omega, by omega, by omega, HSC2.out, hown3, hb4⟩
                  case measure => simp [intOf]; omega
              · have hok' : uneOk (nums t) = false := by simpa using hok
                have hun : Hid (∀ w, Calls Tryd.prog 28 #[.string (s.extract b e)] w fun e w' => e = .returned (.tuple #[.string ⟨#[]⟩, .bool false]) ∧ Below w.heap.size w w') := fun w => by
                  rw [← hT, ← uneV_no hok']; exact specUnescaped t w (by omega)
                have HSC2 : Hid (ScanSt (nums s) (unitsOf (nums s)) acc (k + 3) (k + 1)) := by have := HSC1.out; rw [hpu, if_neg (fun x => hok x.1)] at this; exact this
                clear hpu hok hok' ht hT HSC1 HS hts
                go_wp2_with (go_at_call 28; refine (hun.out _).mono ?_; rintro e3 w3 ⟨rfl, hb3⟩; have hown3 := row_belowI hownI hb3; have hb4 := hbI.trans (hb3.mono hbI.size); clear hownI hbI hb3)
                go_roundw
                case rel => exact ⟨k + 1, acc, _, _, (k : Int) + 3, by go_num, by go_num, rfl, hac, by omega, by omega, by omega, HSC2.out, hown3, hb4⟩
                case measure => simp [intOf]; omega
    · have HF : Hid (unitsOf (nums s) = acc) := scan_end HSC.out (by rw [nums_length]; omega)
      go_wp2
      go_ret
      rw [HF.out]
      exact ⟨_, rfl, hown, hb⟩
end Go.Proofs.YtabpdiekmljceaaDoor
