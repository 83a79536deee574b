/-
  A grey picture: the walks of impl.Grey and spec.Grey.
-/
import Derived.Test.YtpodpfdbklffgaaLongKit
import Derived.Test.YtpodpfdbklffgaaPicKit
import Derived.Test.YtpodpfdbklffgaaShelf
namespace Go.Proofs.Ytpodpfdbklffgaa
open Go.RowKit
set_option linter.unusedVariables false
set_option maxRecDepth 20000

/-- n bytes of 128. -/
def greyT (n : Nat) : ByteArray := strOfNums (List.replicate n 128)
def greyV (W H : Int) : Value := if sideB W && sideB H then picV W H (greyT (W * H).toNat) else picV 0 0 ⟨#[]⟩
theorem strOfNums_data' (l : List Int) : (strOfNums l).data.toList = l.map (fun n => UInt8.ofNat n.toNat) := by
  simp [strOfNums]
theorem grey_rep (n : Nat) : (⟨(Lib.repeatL (⟨#[128]⟩ : ByteArray).data.toList n).toArray⟩ : ByteArray) = greyT n := by
  apply ByteArray.ext
  apply Array.ext'
  unfold greyT
  rw [strOfNums_data']
  simp only
  induction n with
  | zero => rfl
  | succ n ih =>
    rw [Lib.repeatL, ih, List.replicate_succ, List.map_cons]
    rfl
theorem repGrey (n : Nat) (w : World) (h : (n : Int) ≤ 65536) : Calls Try.prog 52 #[.string ⟨#[128]⟩, .int .i64 (n : Int)] w fun e w' => e = .returned (.string (greyT n)) ∧ Below w.heap.size w w' := by
  have h := Try.strings_Repeat ⟨#[128]⟩ n w (by omega) (by show 1 * n ≤ _; omega)
  rw [grey_rep] at h
  exact h

set_option maxHeartbeats 800000 in
theorem implGrey (W H : Int) (w : World) :
    Calls Try.prog 19 #[.int .i64 W, .int .i64 H] w fun e w' => e = .returned (greyV W H) ∧ Below w.heap.size w w' := by
  have C : Hid (∀ n w', Calls Try.prog 51 #[.int .i64 n] w' fun e w'' => e = .returned (.bool (sideB n)) ∧ w'' = w') := fun n w' => sideOk_any n w'
  unfold greyV
  cases h1 : sideB W with
  | false =>
    rw [Bool.false_and, if_neg (by decide)]
    go_enter Try.func19, Try.ntmps19
    go_wp2_with (go_at_call 51; refine (C.out _ _).mono ?_; rintro e w1 ⟨rfl, hw⟩; subst w1; rw [h1])
    refine bodyPost_ret (results_cell_row rfl _ _ w.heap.size 25 _ (0, 0) _ rfl (Blk.new w _ _) Try.underlying25 rfl (by kernel_rfl)) rfl ?_
    exact ⟨rfl, by go_grown⟩
  | true =>
    cases h2 : sideB H with
    | false =>
      rw [Bool.and_false, if_neg (by decide)]
      go_enter Try.func19, Try.ntmps19
      go_wp2_with (go_at_call 51; refine (C.out _ _).mono ?_; rintro e w1 ⟨rfl, hw⟩; subst w1; first | rw [h1] | rw [h2])
      refine bodyPost_ret (results_cell_row rfl _ _ w.heap.size 25 _ (0, 0) _ rfl (Blk.new w _ _) Try.underlying25 rfl (by kernel_rfl)) rfl ?_
      exact ⟨rfl, by go_grown⟩
    | true =>
      rw [Bool.and_true, if_pos rfl]
      have b1 := sideB_iff.1 h1
      have b2 := sideB_iff.1 h2
      have b3 := sides_mul b1 b2
      obtain ⟨n, hn⟩ : ∃ n : Nat, W * H = (n : Int) := ⟨(W * H).toNat, by omega⟩
      have HR : Hid (∀ w', Calls Try.prog 52 #[.string ⟨#[128]⟩, .int .i64 (W * H)] w' fun e w'' => e = .returned (.string (greyT (W * H).toNat)) ∧ Below w'.heap.size w' w'') := fun w' => by
        rw [hn]
        exact repGrey n w' (by omega)
      clear hn
      generalize greyT (W * H).toNat = T at *
      go_enter Try.func19, Try.ntmps19
      go_wp2_with (go_at_call 51; refine (C.out _ _).mono ?_; rintro e w1 ⟨rfl, hw⟩; subst w1; first | rw [h1] | rw [h2])
      generalize hX : World.alloc w _ = V
      have B0 : Blk V w.heap.size #[.int .i64 0, .int .i64 0, .string ⟨#[]⟩] 25 := by rw [← hX]; exact Blk.new w _ _
      have hb0 : Below w.heap.size w V := by rw [← hX]; exact (Below.refl _ _).alloc (Nat.le_refl _) _
      clear hX
      refine (HR.out V).mono ?_
      rintro e w2 ⟨rfl, hc⟩
      have B2 := B0.below hc B0.lt
      have hb2 := hb0.trans (hc.mono hb0.size)
      obtain ⟨⟨x0, x1, x2⟩, f0, f1, f2⟩ := B2.three
      have B5 : Blk (((w2.setCell ⟨w.heap.size, 0, none⟩ (.int .i64 W)).setCell ⟨w.heap.size, 1, none⟩ (.int .i64 H)).setCell ⟨w.heap.size, 2, none⟩ (.string T)) w.heap.size #[.int .i64 W, .int .i64 H, .string T] 25 :=
        ((B2.set 0 (.int .i64 W) (by simp)).set 1 (.int .i64 H) (by simp)).set 2 (.string T) (by simp)
      have hb5 : Below w.heap.size w (((w2.setCell ⟨w.heap.size, 0, none⟩ (.int .i64 W)).setCell ⟨w.heap.size, 1, none⟩ (.int .i64 H)).setCell ⟨w.heap.size, 2, none⟩ (.string T)) :=
        ((hb2.setCell (Nat.le_refl _) _).setCell (Nat.le_refl _) _).setCell (Nat.le_refl _) _
      clear hb2 hb0 hc B0 B2
      go_wp2
      refine bodyPost_ret (results_cell_row rfl _ _ w.heap.size 25 _ (0, 0) _ rfl B5 Try.underlying25 rfl (by kernel_rfl)) rfl ?_
      exact ⟨rfl, hb5⟩

set_option maxHeartbeats 800000 in
theorem specGrey (W H : Int) (w : World) :
    Calls Try.prog 25 #[.int .i64 W, .int .i64 H] w fun e w' => e = .returned (greyV W H) ∧ Below w.heap.size w w' := by
  have C : Hid (∀ n w', Calls Try.prog 54 #[.int .i64 n, .int .i64 1, .int .i64 256] w' fun e w'' => e = .returned (.bool (sideB n)) ∧ w'' = w') := fun n w' => in_any n 1 256 w'
  unfold greyV
  cases h1 : sideB W with
  | false =>
    rw [Bool.false_and, if_neg (by decide)]
    go_enter Try.func25, Try.ntmps25
    go_wp2_with (go_at_call 54; refine (C.out _ _).mono ?_; rintro e w1 ⟨rfl, hw⟩; subst w1; rw [h1])
    refine bodyPost_ret (results_cell_row rfl _ _ w.heap.size 25 _ (0, 0) _ rfl (Blk.new w _ _) Try.underlying25 rfl (by kernel_rfl)) rfl ?_
    exact ⟨rfl, by go_grown⟩
  | true =>
    cases h2 : sideB H with
    | false =>
      rw [Bool.and_false, if_neg (by decide)]
      go_enter Try.func25, Try.ntmps25
      go_wp2_with (go_at_call 54; refine (C.out _ _).mono ?_; rintro e w1 ⟨rfl, hw⟩; subst w1; first | rw [h1] | rw [h2])
      refine bodyPost_ret (results_cell_row rfl _ _ w.heap.size 25 _ (0, 0) _ rfl (Blk.new w _ _) Try.underlying25 rfl (by kernel_rfl)) rfl ?_
      exact ⟨rfl, by go_grown⟩
    | true =>
      rw [Bool.and_true, if_pos rfl]
      have b1 := sideB_iff.1 h1
      have b2 := sideB_iff.1 h2
      have b3 := sides_mul b1 b2
      obtain ⟨n, hn⟩ : ∃ n : Nat, W * H = (n : Int) := ⟨(W * H).toNat, by omega⟩
      have HR : Hid (∀ w', Calls Try.prog 55 #[.int .i64 (W * H), .int .u8 128] w' fun e w'' => e = .returned (.string (greyT (W * H).toNat)) ∧ Below w'.heap.size w' w'') := fun w' => by
        rw [hn]
        exact specLong n 128 w' (by omega)
      clear hn
      generalize greyT (W * H).toNat = T at *
      go_enter Try.func25, Try.ntmps25
      go_wp2_with (go_at_call 54; refine (C.out _ _).mono ?_; rintro e w1 ⟨rfl, hw⟩; subst w1; first | rw [h1] | rw [h2])
      generalize hX : World.alloc w _ = V
      have B0 : Blk V w.heap.size #[.int .i64 0, .int .i64 0, .string ⟨#[]⟩] 25 := by rw [← hX]; exact Blk.new w _ _
      have hb0 : Below w.heap.size w V := by rw [← hX]; exact (Below.refl _ _).alloc (Nat.le_refl _) _
      clear hX
      refine (HR.out V).mono ?_
      rintro e w2 ⟨rfl, hc⟩
      have B2 := B0.below hc B0.lt
      have hb2 := hb0.trans (hc.mono hb0.size)
      obtain ⟨⟨x0, x1, x2⟩, f0, f1, f2⟩ := B2.three
      have B5 : Blk (((w2.setCell ⟨w.heap.size, 0, none⟩ (.int .i64 W)).setCell ⟨w.heap.size, 1, none⟩ (.int .i64 H)).setCell ⟨w.heap.size, 2, none⟩ (.string T)) w.heap.size #[.int .i64 W, .int .i64 H, .string T] 25 :=
        ((B2.set 0 (.int .i64 W) (by simp)).set 1 (.int .i64 H) (by simp)).set 2 (.string T) (by simp)
      have hb5 : Below w.heap.size w (((w2.setCell ⟨w.heap.size, 0, none⟩ (.int .i64 W)).setCell ⟨w.heap.size, 1, none⟩ (.int .i64 H)).setCell ⟨w.heap.size, 2, none⟩ (.string T)) :=
        ((hb2.setCell (Nat.le_refl _) _).setCell (Nat.le_refl _) _).setCell (Nat.le_refl _) _
      clear hb2 hb0 hc B0 B2
      go_wp2
      refine bodyPost_ret (results_cell_row rfl _ _ w.heap.size 25 _ (0, 0) _ rfl B5 Try.underlying25 rfl (by kernel_rfl)) rfl ?_
      exact ⟨rfl, hb5⟩
end Go.Proofs.Ytpodpfdbklffgaa
