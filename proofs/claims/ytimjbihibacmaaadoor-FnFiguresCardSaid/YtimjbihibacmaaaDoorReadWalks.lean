/-
  The walks of spec.ReadDecimal and impl.ReadDecimal: both answer the number that the text tells as Decimal writes it.
-/
import Derived.Test.YtimjbihibacmaaaDoorDecWalks
import Derived.Test.YtimjbihibacmaaaDoorReadMath
namespace Go.Proofs.YtimjbihibacmaaaDoor
open Go.RowKit Go.Shelf

set_option maxHeartbeats 400000 in
theorem specRead_long (s : ByteArray) (w : World) (hm : s.size ≤ maxLen) (hs : 10 < s.size) :
    Calls Tryd.prog 15 #[.string s] w fun e w' => e = .returned (readV s.data.toList) ∧ Below w.heap.size w w' := by
  unfold maxLen at hm
  have HV : Hid (readV s.data.toList = .tuple #[.int .i64 0, .bool false]) := readV_no fun n hn h => by
    have := digits_len n hn
    rw [h] at this
    have e : s.data.toList.length = s.size := rfl
    omega
  go_enter Tryd.func15, Tryd.ntmps15
  go_wp2
  go_ret2
  exact ⟨by rw [HV.out]; rfl, Below.refl _ _⟩

theorem digit_of (s : ByteArray) (k : Nat) (hk : k < s.size) : Lib.digitVal s[k] = if (48 : Int) ≤ (s[k].toNat : Int) ∧ (s[k].toNat : Int) ≤ 57 then some (s[k].toNat - 48) else none := by
  unfold Lib.digitVal
  by_cases h : 48 ≤ s[k].toNat ∧ s[k].toNat ≤ 57
  · rw [if_pos h, if_pos (by omega)]
  · rw [if_neg h, if_neg (by omega)]

set_option maxHeartbeats 800000 in
theorem specRead (s : ByteArray) (w : World) (hs : s.size ≤ 10) :
    Calls Tryd.prog 15 #[.string s] w fun e w' => e = .returned (readV s.data.toList) ∧ Below w.heap.size w w' := by
  have hlen : s.data.toList.length = s.size := rfl
  go_enter Tryd.func15, Tryd.ntmps15
  go_wp2
  go_loop [4, 5] (fun a i => ∃ k n : Nat, k ≤ s.size ∧ i = .int .i64 k ∧ a = .int .i64 n ∧ Lib.decFrom 0 (s.data.toList.take k) = some n ∧ n < 10000000000) (fun _ i => s.size - (intOf i).toNat)
  case atStart => exact ⟨0, 0, Nat.zero_le _, rfl, rfl, rfl, by omega⟩
  case round =>
    obtain ⟨k, n, hk, rfl, rfl, hd, hn⟩ := hrel
    have HD : Hid (Lib.decFrom 0 (s.data.toList.take k) = some n) := hd
    clear hd
    by_cases hlt : k < s.size
    · have hl : k < s.data.toList.length := hlt
      by_cases hc : (48 : Int) ≤ (s[k].toNat : Int) ∧ (s[k].toNat : Int) ≤ 57
      · have HN : Hid (Lib.decFrom 0 (s.data.toList.take (k + 1)) = some (n * 10 + (s[k].toNat - 48))) := Lib.decFrom_take s.data.toList k 0 n s[k] _ HD.out (by rw [List.getElem?_eq_getElem hl]; rfl) (by rw [digit_of s k hlt, if_pos hc])
        have hbd : n * 10 + (s[k].toNat - 48) < 10000000000 := by
          have h1 := Lib.decFrom_lt _ 0 _ HN.out
          have h2 : (s.data.toList.take (k + 1)).length ≤ 10 := by rw [List.length_take]; omega
          have h3 : (10 : Nat) ^ (s.data.toList.take (k + 1)).length ≤ 10 ^ 10 := Nat.pow_le_pow_right (by decide) h2
          have e10 : (10 : Nat) ^ 10 = 10000000000 := by decide
          omega
        obtain ⟨hc1, hc2⟩ := hc
        go_wp2
        go_round
        case rel => exact ⟨k + 1, n * 10 + (s[k].toNat - 48), by omega, by go_num, by go_num, HN.out, hbd⟩
        case measure => simp [intOf]; omega
      · have HV : Hid (readV s.data.toList = .tuple #[.int .i64 0, .bool false]) := readV_no fun m hm h => by
          obtain ⟨d, hd⟩ := Lib.digit_of_decFrom s.data.toList 0 m (by rw [← h, decFrom_digits]) k s[k] (by rw [List.getElem?_eq_getElem hl]; rfl)
          rw [digit_of s k hlt, if_neg hc] at hd
          cases hd
        have hcc : (s[k].toNat : Int) < 48 ∨ 57 < (s[k].toNat : Int) := by omega
        clear hc
        rcases hcc with hcc | hcc
        all_goals
          go_wp2
          go_ret2
          exact ⟨by rw [HV.out]; rfl, Below.refl _ _⟩
    · obtain rfl : k = s.size := by omega
      have hfull : Lib.decFrom 0 s.data.toList = some n := by
        have := HD.out
        rw [List.take_of_length_le (Nat.le_of_eq hlen)] at this
        exact this
      by_cases hbig : n ≤ 1000000000
      · have hi : Lib.itoa (n : Int) = Lib.decDigits n := Lib.itoa_nonneg n
        by_cases he : Lib.decDigits n = s.data.toList
        · have HV : Hid (readV s.data.toList = .tuple #[.int .i64 n, .bool true]) := readV_yes hbig he
          have heq : (Lib.itoa (n : Int) == s.toList) = true := by rw [hi, he, ByteArray.toList_eq]; simp
          clear hfull he hi
          go_wp2_with (go_at_call 14; refine (specDec (n : Int) _ (by omega) (by omega)).mono ?_; rintro e w1 ⟨rfl, hb1⟩)
          go_ret2
          exact ⟨by rw [HV.out]; rfl, hb1⟩
        · have HV : Hid (readV s.data.toList = .tuple #[.int .i64 0, .bool false]) := readV_no fun m hm h => by
            have := decFrom_digits m
            rw [h, hfull] at this
            simp at this
            subst this
            exact he h
          have heq : (Lib.itoa (n : Int) == s.toList) = false := by rw [hi, ByteArray.toList_eq]; simpa using he
          clear hfull he hi
          go_wp2_with (go_at_call 14; refine (specDec (n : Int) _ (by omega) (by omega)).mono ?_; rintro e w1 ⟨rfl, hb1⟩)
          go_ret2
          exact ⟨by rw [HV.out]; rfl, hb1⟩
      · have HV : Hid (readV s.data.toList = .tuple #[.int .i64 0, .bool false]) := readV_no fun m hm h => by
          have := decFrom_digits m
          rw [h, hfull] at this
          simp at this
          omega
        clear hfull
        go_wp2
        go_ret2
        exact ⟨by rw [HV.out]; rfl, Below.refl _ _⟩
theorem specRead_any (s : ByteArray) (w : World) (hm : s.size ≤ maxLen) :
    Calls Tryd.prog 15 #[.string s] w fun e w' => e = .returned (readV s.data.toList) ∧ Below w.heap.size w w' := by
  by_cases h : s.size ≤ 10
  · exact specRead s w h
  · exact specRead_long s w hm (by omega)

/-- What Atoi does, as the caller feels it. -/
theorem atoi_ok (s : ByteArray) (hl : s.size ≤ 1048576) (v : Int) (h : Lib.atoiAll s.data.toList = .ok v) (w : World) :
    Calls Tryd.prog 21 #[.string s] w fun e w' => e = .returned (.tuple #[.int .i64 v, .nilIface]) ∧ Below w.heap.size w w' :=
  (Any.strconv_Atoi_ok Tryd.laysC172 s (by omega) v h w).mono fun e w' ⟨h1, h2⟩ => ⟨h1, by
    rcases h2 with rfl | ⟨t, rfl⟩
    · exact Below.refl _ _
    · exact Lib.bytesWorld_below w _ t⟩
def Sentinels (w : World) : Prop := (∃ tp p, w.var? Tryd.prog "strconv.ErrSyntax" = some #[.iface tp p]) ∧ ∃ tp p, w.var? Tryd.prog "strconv.ErrRange" = some #[.iface tp p]
theorem atoi_err (s : ByteArray) (hl : s.size ≤ 1048576) (h : ∀ v, Lib.atoiAll s.data.toList ≠ .ok v) (w : World) (hv : Sentinels w) :
    Calls Tryd.prog 21 #[.string s] w fun e w' => ∃ n N, e = .returned (.tuple #[.int .i64 n, .iface 53 (.pointer (some ⟨N, 0, none⟩))]) ∧ Below w.heap.size w w' := by
  obtain ⟨⟨tp, p, h1⟩, tq, q, h2⟩ := hv
  cases hc : Lib.atoiAll s.data.toList
  case ok v => exact absurd hc (h v)
  case range => exact (Any.strconv_Atoi_range_var Tryd.laysC172 s (by omega) hc tq q w h2).mono fun e w' ⟨N, h3, _, _, h4⟩ => ⟨_, N, h3, h4⟩
  all_goals exact (Any.strconv_Atoi_syntax_var Tryd.laysC172 s (by omega) hc tp p w h1).mono fun e w' ⟨N, h3, _, _, h4⟩ => ⟨_, N, h3, h4⟩

set_option maxHeartbeats 800000 in
theorem implRead (s : ByteArray) (w : World) (hl : s.size ≤ 1048576) (hv : Sentinels w) (hg : 3 < w.heap.size) (gTab : Tryd.prog.globalNamed "internal/strconv.uint64pow10" = some 3) (htab : Lib.TabIs Tryd.prog w "internal/strconv.uint64pow10" .u64 Lib.pow10Tab) :
    Calls Tryd.prog 11 #[.string s] w fun e w' => e = .returned (readV s.data.toList) ∧ Below w.heap.size w w' := by
  have HT : Hid (Lib.TabIs Tryd.prog w "internal/strconv.uint64pow10" .u64 Lib.pow10Tab) := htab
  have HG : Hid (Tryd.prog.globalNamed "internal/strconv.uint64pow10" = some 3) := gTab
  clear htab gTab
  by_cases hok : ∃ v, Lib.atoiAll s.data.toList = .ok v
  · obtain ⟨v, hok⟩ := hok
    obtain ⟨b1, b2⟩ := Lib.atoiAll_bounds hok
    have HK : Hid (Lib.atoiAll s.data.toList = .ok v) := hok
    have A : Hid (Calls Tryd.prog 21 #[.string s] w fun e w' => e = .returned (.tuple #[.int .i64 v, .nilIface]) ∧ Below w.heap.size w w') := atoi_ok s hl v hok w
    clear hok hv
    by_cases hr : 0 ≤ v ∧ v ≤ 1000000000
    · obtain ⟨n, rfl⟩ := Int.eq_ofNat_of_zero_le hr.1
      have hn : n ≤ 1000000000 := by omega
      have hi : Lib.itoa (n : Int) = Lib.decDigits n := Lib.itoa_nonneg n
      by_cases he : Lib.decDigits n = s.data.toList
      · have HV : Hid (readV s.data.toList = .tuple #[.int .i64 n, .bool true]) := readV_yes hn he
        have heq : (Lib.itoa (n : Int) == s.toList) = true := by rw [hi, he, ByteArray.toList_eq]; simp
        clear he hi
        go_enter Tryd.func11, Tryd.ntmps11
        go_wp2_with (first
          | (go_at_call 21; refine A.out.mono ?_; rintro e w1 ⟨rfl, hb1⟩)
          | (go_at_call 12; refine (implDec (n : Int) _ (by omega) (by omega) (var?_below hb1 HG.out hg HT.out)).mono ?_; rintro e w2 ⟨rfl, hb2⟩))
        go_ret2
        exact ⟨by rw [HV.out]; rfl, hb1.trans (hb2.mono hb1.size)⟩
      · have HV : Hid (readV s.data.toList = .tuple #[.int .i64 0, .bool false]) := readV_no fun m hm h => by
          have := HK.out
          rw [atoi_digits hm h] at this
          simp at this
          have : m = n := by omega
          subst this
          exact he h
        have heq : (Lib.itoa (n : Int) == s.toList) = false := by rw [hi, ByteArray.toList_eq]; simpa using he
        clear he hi
        go_enter Tryd.func11, Tryd.ntmps11
        go_wp2_with (first
          | (go_at_call 21; refine A.out.mono ?_; rintro e w1 ⟨rfl, hb1⟩)
          | (go_at_call 12; refine (implDec (n : Int) _ (by omega) (by omega) (var?_below hb1 HG.out hg HT.out)).mono ?_; rintro e w2 ⟨rfl, hb2⟩))
        go_ret2
        exact ⟨by rw [HV.out]; rfl, hb1.trans (hb2.mono hb1.size)⟩
    · have HV : Hid (readV s.data.toList = .tuple #[.int .i64 0, .bool false]) := readV_no fun m hm h => by
        have := HK.out
        rw [atoi_digits hm h] at this
        simp at this
        omega
      have hrr : v < 0 ∨ 0 ≤ v ∧ 1000000000 < v := by omega
      clear hr
      rcases hrr with hrr | ⟨hr0, hrr⟩
      all_goals
        go_enter Tryd.func11, Tryd.ntmps11
        go_wp2_with (go_at_call 21; refine A.out.mono ?_; rintro e w1 ⟨rfl, hb1⟩)
        go_ret2
        exact ⟨by rw [HV.out]; rfl, hb1⟩
  · have hok' : ∀ v, Lib.atoiAll s.data.toList ≠ .ok v := fun v h => hok ⟨v, h⟩
    have A : Hid (Calls Tryd.prog 21 #[.string s] w fun e w' => ∃ n N, e = .returned (.tuple #[.int .i64 n, .iface 53 (.pointer (some ⟨N, 0, none⟩))]) ∧ Below w.heap.size w w') := atoi_err s hl hok' w hv
    have HV : Hid (readV s.data.toList = .tuple #[.int .i64 0, .bool false]) := readV_no fun m hm h => hok' m (atoi_digits hm h)
    clear hok hok' hv
    go_enter Tryd.func11, Tryd.ntmps11
    go_wp2_with (go_at_call 21; refine A.out.mono ?_; rintro e w1 ⟨n, N, rfl, hb1⟩)
    go_ret2
    exact ⟨by rw [HV.out]; rfl, hb1⟩
end Go.Proofs.YtimjbihibacmaaaDoor
