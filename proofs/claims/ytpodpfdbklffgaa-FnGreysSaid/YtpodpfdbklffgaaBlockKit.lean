/-
  The dots of a block: the walks of impl.BlockOf and spec.BlockOf.
-/
import Derived.Test.YtpodpfdbklffgaaDotKit
import Derived.Test.YtpodpfdbklffgaaOwnKit
import Derived.Deep.AppendLies
namespace Go.Proofs.Ytpodpfdbklffgaa
open Go.RowKit
set_option linter.unusedVariables false
set_option maxRecDepth 20000

set_option maxHeartbeats 400000 in
theorem startOk_any (n : Int) (w : World) : Calls Try.prog 53 #[.int .i64 n] w fun e w' => e = .returned (.bool (startB n)) ∧ w' = w := by
  by_cases h1 : -1000 ≤ n
  · go_enter Try.func53, Try.ntmps53
    go_wp2
    all_goals go_ret
    all_goals exact ⟨by simp [startB]; omega, rfl⟩
  · go_enter Try.func53, Try.ntmps53
    go_wp2
    all_goals go_ret
    all_goals exact ⟨by simp [startB]; omega, rfl⟩

/-- The first k dots of a block. -/
def blockK (W H : Int) (s : ByteArray) (x y : Int) (k : Nat) : List Int := listF k (blockF W H s x y)
theorem blockK_succ (W H : Int) (s : ByteArray) (x y : Int) (k : Nat) : blockK W H s x y (k + 1) = blockK W H s x y k ++ [blockF W H s x y k] := by
  simp [blockK, listF, List.range_succ]
theorem blockF_at (W H : Int) (s : ByteArray) (x y : Int) (r c : Nat) (hc : c < 8) : blockF W H s x y (r * 8 + c) = dotF W H s (x + (c : Int)) (y + (r : Int)) := by
  unfold blockF
  rw [show (r * 8 + c) % 8 = c by omega, show (r * 8 + c) / 8 = r by omega]

set_option maxHeartbeats 1600000 in
theorem implBlockOf (W H : Int) (s : ByteArray) (x y : Int) (w : World) :
    Calls Try.prog 20 #[picV W H s, .int .i64 x, .int .i64 y] w fun e w' => (∃ v, e = .returned v ∧ w'.ownsRow w.heap.size 3 1 v (blockL W H s x y).length ((blockL W H s x y).map (Value.int .i64))) ∧ Below w.heap.size w w' := by
  obtain ⟨i0, hi0, hz0, hz1, hz2⟩ := info_parts infoI
  have CO : Hid (∀ w', Calls Try.prog 21 #[picV W H s] w' (fun e w'' => e = .returned (.bool (picB W H s)) ∧ Below w'.heap.size w' w'')) := fun w' => implPicOk W H s w'
  have CX : Hid (∀ w', Calls Try.prog 53 #[.int .i64 x] w' (fun e w'' => e = .returned (.bool (startB x)) ∧ w'' = w')) := fun w' => startOk_any x w'
  have CY : Hid (∀ w', Calls Try.prog 53 #[.int .i64 y] w' (fun e w'' => e = .returned (.bool (startB y)) ∧ w'' = w')) := fun w' => startOk_any y w'
  have CD : Hid (picB W H s = true → ∀ (r c : Nat) w', Calls Try.prog 49 #[picV W H s, .int .i64 (x + (c : Int)), .int .i64 (y + (r : Int))] w' (fun e w'' => e = .returned (.int .i64 (dotF W H s (x + (c : Int)) (y + (r : Int)))) ∧ Below w'.heap.size w' w'')) := fun h r c w' => dotNearest W H s _ _ w' h
  have HV : Hid (blockL W H s x y = if picB W H s && startB x && startB y then blockK W H s x y 64 else []) := rfl
  have HK : Hid (∀ r c : Nat, c < 8 → blockK W H s x y (r * 8 + c + 1) = blockK W H s x y (r * 8 + c) ++ [dotF W H s (x + (c : Int)) (y + (r : Int))]) := fun r c h => by rw [blockK_succ, blockF_at _ _ _ _ _ _ _ h]
  have HN : Hid (∀ k, (blockK W H s x y k).length = k) := fun k => listF_length _ _
  have HX : Hid (startB x = true → -1000 ≤ x ∧ x ≤ 1000) := fun h => by simpa [startB] using h
  have HY : Hid (startB y = true → -1000 ≤ y ∧ y ≤ 1000) := fun h => by simpa [startB] using h
  generalize blockL W H s x y = Z at *
  have HZ : Hid (blockK W H s x y 0 = []) := rfl
  generalize hKK : blockK W H s x y = K at *
  clear hKK
  go_enter Try.func20, Try.ntmps20
  go_wp2_with fail
  generalize hW : World.alloc w _ = V
  have B0 : Blk V w.heap.size #[.int .i64 W, .int .i64 H, .string s] 25 := by rw [← hW]; exact Blk.new w _ _
  have hb0 : Below w.heap.size w V := by rw [← hW]; exact (Below.refl _ _).alloc (Nat.le_refl _) _
  clear hW
  have BK : Hid (∀ w', Below V.heap.size V w' → (w'.cell? ⟨w.heap.size, 0, none⟩ = some (.int .i64 W) ∧ w'.cell? ⟨w.heap.size, 1, none⟩ = some (.int .i64 H) ∧ w'.cell? ⟨w.heap.size, 2, none⟩ = some (.string s))) :=
    fun w' h => (B0.below h B0.lt).three.1
  clear B0
  refine (CO.out V).mono ?_
  rintro e w1 ⟨rfl, hc1⟩
  obtain ⟨x0, x1, x2⟩ := BK.out w1 hc1
  have hb1 := hb0.trans (hc1.mono hb0.size)
  cases hp : picB W H s with
  | false =>
    obtain rfl : Z = [] := by have := HV.out; simpa [hp] using this
    have ho := own_none w1 (B := w.heap.size) hb1.size
    have hb2 := hb1.alloc hb1.size (.cells #[] 3)
    go_wp2
    go_ret
    exact ⟨⟨_, rfl, ho⟩, hb2⟩
  | true =>
    have CD2 : Hid (∀ (r c : Nat) w', Calls Try.prog 49 #[picV W H s, .int .i64 (x + (c : Int)), .int .i64 (y + (r : Int))] w' (fun e w'' => e = .returned (.int .i64 (dotF W H s (x + (c : Int)) (y + (r : Int)))) ∧ Below w'.heap.size w' w'')) := CD.out hp
    have HV2 : Hid (Z = if startB x && startB y then K 64 else []) := by
      show _ = _
      rw [HV.out, hp]
      rfl
    clear HV CD hp CO
    cases hx : startB x with
    | false =>
      obtain rfl : Z = [] := by have := HV2.out; simpa [hx] using this
      have ho := own_none w1 (B := w.heap.size) hb1.size
      have hb2 := hb1.alloc hb1.size (.cells #[] 3)
      rw [hx] at CX
      go_wp2_with (go_at_call_of 53 (Value.int IntKind.i64 x); refine (CX.out _).mono ?_; rintro e w2 ⟨rfl, hw⟩; subst w2)
      go_ret
      exact ⟨⟨_, rfl, ho⟩, hb2⟩
    | true =>
      cases hy : startB y with
      | false =>
        obtain rfl : Z = [] := by have := HV2.out; simpa [hy] using this
        have ho := own_none w1 (B := w.heap.size) hb1.size
        have hb2 := hb1.alloc hb1.size (.cells #[] 3)
        rw [hx] at CX
        rw [hy] at CY
        go_wp2_with (first
          | (go_at_call_of 53 (Value.int IntKind.i64 x); refine (CX.out _).mono ?_; rintro e w2 ⟨rfl, hw⟩; subst w2)
          | (go_at_call_of 53 (Value.int IntKind.i64 y); refine (CY.out _).mono ?_; rintro e w3 ⟨rfl, hw⟩; subst w3))
        go_ret
        exact ⟨⟨_, rfl, ho⟩, hb2⟩
      | true =>
        obtain rfl : Z = K 64 := by have := HV2.out; simpa [hx, hy] using this
        obtain ⟨bx0, bx1⟩ := HX.out hx
        obtain ⟨by0, by1⟩ := HY.out hy
        rw [hx] at CX
        rw [hy] at CY
        clear HX HY hx hy HV2
        go_wp2_with (first
          | (go_at_call_of 53 (Value.int IntKind.i64 x); refine (CX.out _).mono ?_; rintro e w2 ⟨rfl, hw⟩; subst w2)
          | (go_at_call_of 53 (Value.int IntKind.i64 y); refine (CY.out _).mono ?_; rintro e w3 ⟨rfl, hw⟩; subst w3)
          | (at_make; refine wpList_make_own _ rfl _ _ 28 rfl V.heap.size 3 i0 (.int .i64 0) 1 Try.underlying28 hi0 hz0 hz1 .i64 .i64 _ 64 rfl rfl rfl (by rw [hz2]; omega) (by unfold maxLen; omega) hc1.size ?_; intro w4 hown0 hgrow0; have hc4 : Below V.heap.size V w4 := hc1.grown hgrow0 hc1.size (fun j hj => by cases hj); clear hgrow0))
        go_loopw [7, 25] (fun u i wr => ∃ r : Nat, r ≤ 8 ∧ i = .int .i64 (r : Int) ∧ wr.ownsRow V.heap.size 3 1 u (r * 8) ((K (r * 8)).map (Value.int .i64)) ∧ Below V.heap.size V wr) (fun _ i _ => 8 - (intOf i).toNat)
        case atStart => exact ⟨0, by omega, rfl, by rw [Nat.zero_mul, HZ.out]; exact hown0, hc4⟩
        case round =>
          obtain ⟨r, hr, rfl, hown, hb⟩ := hrel
          clear hown0 hc4 x0 x1 x2 hc1
          by_cases hlt : r < 8
          · have l0 : (0 : Int) ≤ (r : Int) := by omega
            have l1 : (r : Int) < 8 := by omega
            generalize wr = wh at *
            go_wp2
            go_loopw [7, 28] (fun u i wr => ∃ c : Nat, c ≤ 8 ∧ i = .int .i64 (c : Int) ∧ wr.ownsRow V.heap.size 3 1 u (r * 8 + c) ((K (r * 8 + c)).map (Value.int .i64)) ∧ Below V.heap.size V wr) (fun _ i _ => 8 - (intOf i).toNat)
            case atStart => exact ⟨0, by omega, rfl, hown, hb⟩
            case round =>
              obtain ⟨c, hc, rfl, hown, hb⟩ := hrel
              have m0 : (0 : Int) ≤ (c : Int) := by omega
              by_cases hlc : c < 8
              · have m1 : (c : Int) < 8 := by omega
                obtain ⟨x0, x1, x2⟩ := BK.out wr hb
                have HKc := HK.out r c hlc
                have HKh : Hid (K (r * 8 + c + 1) = K (r * 8 + c) ++ [dotF W H s (x + (c : Int)) (y + (r : Int))]) := HKc
                have CD3 : Hid (∀ w', Calls Try.prog 49 #[picV W H s, .int .i64 (x + (c : Int)), .int .i64 (y + (r : Int))] w' (fun e w'' => e = .returned (.int .i64 (dotF W H s (x + (c : Int)) (y + (r : Int)))) ∧ Below w'.heap.size w' w'')) := CD2.out r c
                generalize dotF W H s (x + (c : Int)) (y + (r : Int)) = D at *
                clear HKc
                have hVs := hb0.size
                have hbs := hb.size
                go_wp2_with (first
                  | (go_at_call 49; refine (CD3.out _).mono ?_; rintro e w5 ⟨rfl, hc5⟩; have hown' := owned_below hown hc5; have hsz5 := hc5.size)
                  | (at_builtin; refine wpList_append_lies _ (by rfl) _ _ 28 (by rfl) V.heap.size 3 i0 (.int .i64 0) 1 8 Try.underlying28 hi0 hz0 hz1 hz2 rfl (by omega) u7 (r * 8 + c) _ (by rfl) (hown'.alloc _) ⟨w5.heap.size, 0, none⟩ 1 1 [.int .i64 D] (by rfl) (by rfl) (World.news_of_block (cs := #[.int .i64 D]) (t := 3) (fr := (0, 0)) (heap_alloc_new w5 _)) (by simp [Value.oneCell']) (by omega) (by unfold maxLen; omega) (by omega) (by simp; omega) (w5.heap.size + 1) (by simp) ?_; intro gg cp w6 hown2 hgrow hat hlt2))
                have hb5 := hb.trans (hc5.mono hb.size)
                have hb6 := (hb5.alloc hb5.size (.cells #[.int .i64 D] 3)).grown hgrow (by simp; have := hb5.size; omega) (fun j hj => (hown'.lt j hj).1)
                have hown3 : w6.ownsRow V.heap.size 3 1 (.slice (some ⟨gg, 0, none⟩) (r * 8 + (c + 1)) cp) (r * 8 + (c + 1)) ((K (r * 8 + (c + 1))).map (Value.int .i64)) := by
                  rw [← Nat.add_assoc, HKh.out, List.map_append]; exact hown2
                refine ⟨⟨c + 1, by omega, by go_num, hown3, hb6⟩, ?_⟩
                simp [intOf]; omega
              · obtain rfl : c = 8 := by omega
                have hown8 : wr.ownsRow V.heap.size 3 1 u7 ((r + 1) * 8) ((K ((r + 1) * 8)).map (Value.int .i64)) := by
                  rw [show (r + 1) * 8 = r * 8 + 8 by omega]; exact hown
                go_wp2
                refine ⟨⟨r + 1, by omega, by go_num, hown8, hb⟩, ?_⟩
                simp [intOf]; omega
          · obtain rfl : r = 8 := by omega
            have e8 : (K 64).length = 64 := HN.out 64
            have HO : Hid (wr.ownsRow V.heap.size 3 1 u7 (K 64).length ((K 64).map (Value.int .i64))) := by
              show World.ownsRow _ _ _ _ _ _ _
              rw [e8]; exact hown
            go_wp2
            go_ret
            exact ⟨⟨_, rfl, own_mono HO.out hb0.size⟩, hb0.trans (hb.mono hb0.size)⟩

set_option maxHeartbeats 1600000 in
theorem specBlockOf (W H : Int) (s : ByteArray) (x y : Int) (w : World) :
    Calls Try.prog 28 #[picV W H s, .int .i64 x, .int .i64 y] w fun e w' => (∃ v, e = .returned v ∧ w'.ownsRow w.heap.size 3 1 v (blockL W H s x y).length ((blockL W H s x y).map (Value.int .i64))) ∧ Below w.heap.size w w' := by
  obtain ⟨i0, hi0, hz0, hz1, hz2⟩ := info_parts infoI
  have CO : Hid (∀ w', Calls Try.prog 23 #[picV W H s] w' (fun e w'' => e = .returned (.bool (picB W H s)) ∧ Below w'.heap.size w' w'')) := fun w' => specPicOk W H s w'
  have CX : Hid (∀ w', Calls Try.prog 54 #[.int .i64 x, .int .i64 (-1000), .int .i64 1000] w' (fun e w'' => e = .returned (.bool (startB x)) ∧ w'' = w')) := fun w' => in_any x (-1000) 1000 w'
  have CY : Hid (∀ w', Calls Try.prog 54 #[.int .i64 y, .int .i64 (-1000), .int .i64 1000] w' (fun e w'' => e = .returned (.bool (startB y)) ∧ w'' = w')) := fun w' => in_any y (-1000) 1000 w'
  have CD : Hid (picB W H s = true → ∀ (k : Nat) w', Calls Try.prog 27 #[picV W H s, .int .i64 (x + (k : Int) % 8), .int .i64 (y + (k : Int) / 8)] w' (fun e w'' => e = .returned (.int .i64 (blockF W H s x y k)) ∧ Below w'.heap.size w' w'')) := fun h k w' => by
    have := specDotAt W H s (x + (k : Int) % 8) (y + (k : Int) / 8) w'
    unfold dotO at this
    rw [if_pos h] at this
    exact this
  have HV : Hid (blockL W H s x y = if picB W H s && startB x && startB y then blockK W H s x y 64 else []) := rfl
  have HK : Hid (∀ k : Nat, blockK W H s x y (k + 1) = blockK W H s x y k ++ [blockF W H s x y k]) := fun k => blockK_succ W H s x y k
  have HN : Hid (∀ k, (blockK W H s x y k).length = k) := fun k => listF_length _ _
  have HX : Hid (startB x = true → -1000 ≤ x ∧ x ≤ 1000) := fun h => by simpa [startB] using h
  have HY : Hid (startB y = true → -1000 ≤ y ∧ y ≤ 1000) := fun h => by simpa [startB] using h
  generalize blockL W H s x y = Z at *
  have HZ : Hid (blockK W H s x y 0 = []) := rfl
  generalize hKK : blockK W H s x y = K at *
  generalize hFF : blockF W H s x y = F at *
  clear hKK hFF
  go_enter Try.func28, Try.ntmps28
  go_wp2_with fail
  generalize hW : World.alloc w _ = V
  have B0 : Blk V w.heap.size #[.int .i64 W, .int .i64 H, .string s] 25 := by rw [← hW]; exact Blk.new w _ _
  have hs0 : V.heap.size = w.heap.size + 1 := by rw [← hW]; simp
  have hb0 : Below w.heap.size w V := by rw [← hW]; exact (Below.refl _ _).alloc (Nat.le_refl _) _
  clear hW
  have BK : Hid (∀ w', Below V.heap.size V w' → (w'.cell? ⟨w.heap.size, 0, none⟩ = some (.int .i64 W) ∧ w'.cell? ⟨w.heap.size, 1, none⟩ = some (.int .i64 H) ∧ w'.cell? ⟨w.heap.size, 2, none⟩ = some (.string s))) :=
    fun w' h => (B0.below h B0.lt).three.1
  clear B0
  have o0 : (V.alloc (.cells #[] 3)).ownsRow V.heap.size 3 1 (.slice (some ⟨w.heap.size + 1, 0, none⟩) 0 0) 0 (([] : List Int).map (Value.int .i64)) := by
    rw [← hs0]; exact own_none V (B := V.heap.size) (Nat.le_refl _)
  clear hs0
  have hv0 := (Below.refl V.heap.size V).alloc (Nat.le_refl _) (.cells #[] 3)
  generalize V.alloc (.cells #[] 3) = V1 at *
  refine (CO.out V1).mono ?_
  rintro e w1 ⟨rfl, hc1'⟩
  have hc1 := hv0.trans (hc1'.mono hv0.size)
  have o1 := owned_below o0 hc1'
  obtain ⟨x0, x1, x2⟩ := BK.out w1 hc1
  have hb1 := hb0.trans (hc1.mono hb0.size)
  have O1 : Hid (World.ownsRow _ _ _ _ _ _ _) := own_mono o1 hb0.size
  clear hc1' hv0 o0
  cases hp : picB W H s with
  | false =>
    obtain rfl : Z = [] := by have := HV.out; simpa [hp] using this
    clear o1
    go_wp2
    go_ret
    exact ⟨⟨_, rfl, O1.out⟩, hb1⟩
  | true =>
    have CD2 : Hid (∀ (k : Nat) w', Calls Try.prog 27 #[picV W H s, .int .i64 (x + (k : Int) % 8), .int .i64 (y + (k : Int) / 8)] w' (fun e w'' => e = .returned (.int .i64 (F k)) ∧ Below w'.heap.size w' w'')) := CD.out hp
    have HV2 : Hid (Z = if startB x && startB y then K 64 else []) := by
      show _ = _
      rw [HV.out, hp]
      rfl
    clear HV CD hp CO
    cases hx : startB x with
    | false =>
      obtain rfl : Z = [] := by have := HV2.out; simpa [hx] using this
      rw [hx] at CX
      clear o1
      go_wp2_with (go_at_call_of 54 (Value.int IntKind.i64 x); refine (CX.out _).mono ?_; rintro e w2 ⟨rfl, hw⟩; subst w2)
      go_ret
      exact ⟨⟨_, rfl, O1.out⟩, hb1⟩
    | true =>
      cases hy : startB y with
      | false =>
        obtain rfl : Z = [] := by have := HV2.out; simpa [hy] using this
        rw [hx] at CX
        rw [hy] at CY
        clear o1
        go_wp2_with (first
          | (go_at_call_of 54 (Value.int IntKind.i64 x); refine (CX.out _).mono ?_; rintro e w2 ⟨rfl, hw⟩; subst w2)
          | (go_at_call_of 54 (Value.int IntKind.i64 y); refine (CY.out _).mono ?_; rintro e w3 ⟨rfl, hw⟩; subst w3))
        go_ret
        exact ⟨⟨_, rfl, O1.out⟩, hb1⟩
      | true =>
        obtain rfl : Z = K 64 := by have := HV2.out; simpa [hx, hy] using this
        obtain ⟨bx0, bx1⟩ := HX.out hx
        obtain ⟨by0, by1⟩ := HY.out hy
        rw [hx] at CX
        rw [hy] at CY
        clear HX HY hx hy HV2 O1
        go_wp2_with (first
          | (go_at_call_of 54 (Value.int IntKind.i64 x); refine (CX.out _).mono ?_; rintro e w2 ⟨rfl, hw⟩; subst w2)
          | (go_at_call_of 54 (Value.int IntKind.i64 y); refine (CY.out _).mono ?_; rintro e w3 ⟨rfl, hw⟩; subst w3))
        go_loopw [7, 8] (fun u i wr => ∃ k : Nat, k ≤ 64 ∧ i = .int .i64 (k : Int) ∧ wr.ownsRow V.heap.size 3 1 u k ((K k).map (Value.int .i64)) ∧ Below V.heap.size V wr) (fun _ i _ => 64 - (intOf i).toNat)
        case atStart => exact ⟨0, by omega, rfl, by rw [HZ.out]; exact o1, hc1⟩
        case round =>
          obtain ⟨k, hk, rfl, hown, hb⟩ := hrel
          clear o1 hc1 x0 x1 x2
          by_cases hlt : k < 64
          · have l0 : (0 : Int) ≤ (k : Int) := by omega
            have l1 : (k : Int) < 64 := by omega
            obtain ⟨x0, x1, x2⟩ := BK.out wr hb
            have CD3 : Hid (∀ w', Calls Try.prog 27 #[picV W H s, .int .i64 (x + (k : Int) % 8), .int .i64 (y + (k : Int) / 8)] w' (fun e w'' => e = .returned (.int .i64 (F k)) ∧ Below w'.heap.size w' w'')) := CD2.out k
            have HKh : Hid (K (k + 1) = K k ++ [F k]) := HK.out k
            generalize F k = D at *
            have hVs := hb0.size
            have hbs := hb.size
            go_wp2_with (first
              | (go_at_call 27; refine (CD3.out _).mono ?_; rintro e w5 ⟨rfl, hc5⟩; have hown' := owned_below hown hc5; have hsz5 := hc5.size)
              | (at_builtin; refine wpList_append_lies _ (by rfl) _ _ 28 (by rfl) V.heap.size 3 i0 (.int .i64 0) 1 8 Try.underlying28 hi0 hz0 hz1 hz2 rfl (by omega) u7 k _ (by rfl) (hown'.alloc _) ⟨w5.heap.size, 0, none⟩ 1 1 [.int .i64 D] (by rfl) (by rfl) (World.news_of_block (cs := #[.int .i64 D]) (t := 3) (fr := (0, 0)) (heap_alloc_new w5 _)) (by simp [Value.oneCell']) (by omega) (by unfold maxLen; omega) (by omega) (by simp; omega) (w5.heap.size + 1) (by simp) ?_; intro gg cp w6 hown2 hgrow hat hlt2))
            have hb5 := hb.trans (hc5.mono hb.size)
            have hb6 := (hb5.alloc hb5.size (.cells #[.int .i64 D] 3)).grown hgrow (by simp; have := hb5.size; omega) (fun j hj => (hown'.lt j hj).1)
            have hown3 : w6.ownsRow V.heap.size 3 1 (.slice (some ⟨gg, 0, none⟩) (k + 1) cp) (k + 1) ((K (k + 1)).map (Value.int .i64)) := by
              rw [HKh.out, List.map_append]; exact hown2
            go_roundw
            case rel => exact ⟨k + 1, by omega, by go_num, hown3, hb6⟩
            case measure => simp [intOf]; omega
          · obtain rfl : k = 64 := by omega
            have e8 : (K 64).length = 64 := HN.out 64
            have HO : Hid (wr.ownsRow w.heap.size 3 1 u7 (K 64).length ((K 64).map (Value.int .i64))) := by
              show World.ownsRow _ _ _ _ _ _ _
              rw [e8]; exact own_mono hown hb0.size
            go_wp2
            go_ret
            exact ⟨⟨_, rfl, HO.out⟩, hb0.trans (hb.mono hb0.size)⟩
end Go.Proofs.Ytpodpfdbklffgaa
