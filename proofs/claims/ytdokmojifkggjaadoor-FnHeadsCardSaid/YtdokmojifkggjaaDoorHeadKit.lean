/-
  The walks of impl.HeadOk and spec.HeadOk: when a head is right.
-/
import Derived.Test.YtdokmojifkggjaaDoorMFaultKit
import Derived.Test.YtdokmojifkggjaaDoorParKit
import Derived.Test.YtdokmojifkggjaaDoorMFixKit
import Derived.BigQuiet
import Derived.Test.YtdokmojifkggjaaDoorDrawKit
import Derived.BigRegion
namespace Go.Proofs.YtdokmojifkggjaaDoor
open Go.RowKit
set_option linter.unusedVariables false
set_option maxRecDepth 20000

/-- When a head is right. -/
def headB (l b : Int) (xs ys : List Int) (q : Int) (g x : Bool) (t f k : Int) : Bool :=
  parB q g x && (decide (0 ≤ t) && (decide (t < tilesI l b xs ys) && (decide (0 ≤ f) && (decide (f < 2 ^ b.toNat) && (decide (0 ≤ k) && decide (k ≤ 40))))))
theorem headB_true {l b : Int} {xs ys : List Int} {q : Int} {g x : Bool} {t f k : Int} (h : headB l b xs ys q g x t f k = true) :
    parB q g x = true ∧ (0 ≤ t ∧ t < tilesI l b xs ys) ∧ (0 ≤ f ∧ f < 2 ^ b.toNat) ∧ 0 ≤ k ∧ k ≤ 40 := by
  unfold headB at h
  simp only [Bool.and_eq_true, decide_eq_true_eq] at h
  exact ⟨h.1, ⟨h.2.1, h.2.2.1⟩, ⟨h.2.2.2.1, h.2.2.2.2.1⟩, h.2.2.2.2.2⟩
theorem headB_seq {l b : Int} {xs ys : List Int} {q : Int} {g x : Bool} {t f k : Int} (h : headB l b xs ys q g x t f k = true) : seqB l b xs ys = true := by
  obtain ⟨_, ⟨h0, h1⟩, _⟩ := headB_true h
  cases hs : seqB l b xs ys
  · rw [tilesI_no hs] at h1; omega
  · rfl
theorem headB_noSeq {l b : Int} {xs ys : List Int} {q : Int} {g x : Bool} {t f k : Int} (h : seqB l b xs ys = false) : headB l b xs ys q g x t f k = false := by
  cases hh : headB l b xs ys q g x t f k
  · rfl
  · rw [headB_seq hh] at h; cases h
theorem headB_noPar {l b : Int} {xs ys : List Int} {q : Int} {g x : Bool} {t f k : Int} (h : parB q g x = false) : headB l b xs ys q g x t f k = false := by
  unfold headB; rw [h]; rfl

theorem shl_small {b : Int} (h0 : 3 ≤ b) (h1 : b ≤ 8) : wrap64 (2 ^ b.toNat) = 2 ^ b.toNat := by
  obtain ⟨n, rfl⟩ : ∃ n : Nat, b = n := ⟨b.toNat, by omega⟩
  have hn : n ≤ 8 := by omega
  have : (2 : Int) ^ n ≤ 2 ^ 8 := by exact_mod_cast Nat.pow_le_pow_right (by decide) hn
  have p : (0 : Int) < 2 ^ n := Int.pow_pos (by decide)
  exact IntWalk.wrap64_in _ ⟨by simp; omega, by simp; omega⟩

set_option maxHeartbeats 1600000 in
theorem implHeadOk (l b : Int) (a1 a2 : Option Addr) (c1 c2 : Nat) (xs ys : List Int) (q : Int) (g x c : Bool) (t f k : Int) (w : World) (h : SetIn w a1 a2 xs ys) :
    Calls Tryd.prog 14 #[.agg #[.int .i64 l, .int .i64 b, .slice a1 xs.length c1, .slice a2 ys.length c2], .agg #[.int .i64 q, .bool g, .bool x, .bool c], .agg #[.int .i64 t, .int .i64 f, .int .i64 k]] w fun e w' => e = .returned (.bool (headB l b xs ys q g x t f k)) ∧ Below w.heap.size w w' := by
  have H : Hid (SetIn w a1 a2 xs ys) := h
  clear h
  obtain ⟨p, hp2, HP⟩ : ∃ p, wrap64 (2 ^ b.toNat) = p ∧ Hid (3 ≤ b → b ≤ 8 → p = 2 ^ b.toNat) := ⟨_, rfl, fun h0 h1 => shl_small h0 h1⟩
  generalize hr : headB l b xs ys q g x t f k = r
  have HR : Hid (headB l b xs ys q g x t f k = r) := hr
  clear hr
  go_enter Tryd.func14, Tryd.ntmps14
  go_wp2_with fail
  generalize hW : World.alloc (World.alloc (World.alloc w _) _) _ = W
  have hs : W.heap.size = w.heap.size + 3 := by rw [← hW]; simp
  have S0 : Blk W w.heap.size #[.int .i64 l, .int .i64 b, .slice a1 xs.length c1, .slice a2 ys.length c2] 26 := by rw [← hW]; exact ((Blk.new w _ _).alloc _).alloc _
  have P0 : Blk W (w.heap.size + 1) #[.int .i64 q, .bool g, .bool x, .bool c] 28 := by rw [← hW]; exact (Blk.new' _ _ (by simp)).alloc _
  have K0 : Blk W (w.heap.size + 1 + 1) #[.int .i64 t, .int .i64 f, .int .i64 k] 30 := by rw [← hW]; exact Blk.new' _ _ (by simp)
  have hb0 : Below w.heap.size w W := by rw [← hW]; exact (((Below.refl _ _).alloc (Nat.le_refl _) _).alloc (by simp) _).alloc (by simp; omega) _
  clear hW
  have HW := H.out.below hb0 (Nat.le_refl _)
  refine (implSeqOk _ _ _ _ _ _ _ _ W HW.1.2.2 HW.1.1 HW.1.2.1 HW.2.1 HW.2.2).mono ?_
  rintro e w1 ⟨rfl, hc⟩
  have hb1 := hb0.trans (hc.mono hb0.size)
  have S1 := S0.below hc S0.lt
  have P1 := P0.below hc P0.lt
  have K1 := K0.below hc K0.lt
  clear hc hb0 S0 P0 K0 HW
  cases hsq : seqB l b xs ys with
  | false =>
    have H0 : Hid (r = false) := HR.out.symm.trans (headB_noSeq hsq)
    clear hsq HR
    go_wp2
    go_ret
    exact ⟨by rw [H0.out]; rfl, hb1⟩
  | true =>
    obtain ⟨_, _, y0, y1⟩ := seqB_true hsq
    obtain ⟨⟨p0, p1, p2, p3⟩, _⟩ := P1.four
    go_wp2_with fail
    refine (implParOk _ _ _ _ w1 (H.out.below hb1 (Nat.le_refl _)).1.2.2).mono ?_
    rintro e w2 ⟨rfl, hc⟩
    have hb2 := hb1.trans (hc.mono hb1.size)
    have S2 := S1.below hc S1.lt
    have K2 := K1.below hc K1.lt
    clear hc hb1 S1 P1 K1 p0 p1 p2 p3
    cases hp : parB q g x with
    | false =>
      have H0 : Hid (r = false) := HR.out.symm.trans (headB_noPar hp)
      clear hp hsq HR
      go_wp2
      go_ret
      exact ⟨by rw [H0.out]; rfl, hb2⟩
    | true =>
      have H1 : Hid (r = (decide (0 ≤ t) && (decide (t < tilesI l b xs ys) && (decide (0 ≤ f) && (decide (f < p) && (decide (0 ≤ k) && decide (k ≤ 40))))))) := by show _ = _; rw [← HR.out, HP.out y0 y1]; unfold headB; rw [hp]; rfl
      have KB : Hid (∀ w', Blk w' w.heap.size #[.int .i64 l, .int .i64 b, .slice a1 xs.length c1, .slice a2 ys.length c2] 26 → Blk w' (w.heap.size + 1 + 1) #[.int .i64 t, .int .i64 f, .int .i64 k] 30 →
          (w'.cell? ⟨w.heap.size, 0, none⟩ = some (.int .i64 l) ∧ w'.cell? ⟨w.heap.size, 1, none⟩ = some (.int .i64 b) ∧ w'.cell? ⟨w.heap.size, 2, none⟩ = some (.slice a1 xs.length c1) ∧ w'.cell? ⟨w.heap.size, 3, none⟩ = some (.slice a2 ys.length c2)) ∧ (w'.cell? ⟨w.heap.size + 1 + 1, 0, none⟩ = some (.int .i64 t) ∧ w'.cell? ⟨w.heap.size + 1 + 1, 1, none⟩ = some (.int .i64 f) ∧ w'.cell? ⟨w.heap.size + 1 + 1, 2, none⟩ = some (.int .i64 k))) := fun w' h1 h2 => ⟨h1.four.1, h2.three.1⟩
      have HT : Hid (Calls Tryd.prog 40 #[.agg #[.int .i64 l, .int .i64 b, .slice a1 xs.length c1, .slice a2 ys.length c2]] w2.drew _) := implTilesOf l b a1 a2 c1 c2 xs ys w2.drew (H.out.below hb2.drew (Nat.le_refl _))
      generalize tilesI l b xs ys = n at *
      clear hp hsq HR HP
      have K00 := KB.out w2.drew S2.drew K2.drew
      have hb3 := hb2.drew
      by_cases ht : 0 ≤ t
      · have dt : decide (0 ≤ t) = true := by simp [ht]
        go_wp2_with fail
        go_region_held3 (fun w' => (w'.cell? ⟨w.heap.size, 0, none⟩ = some (.int .i64 l) ∧ w'.cell? ⟨w.heap.size, 1, none⟩ = some (.int .i64 b) ∧ w'.cell? ⟨w.heap.size, 2, none⟩ = some (.slice a1 xs.length c1) ∧ w'.cell? ⟨w.heap.size, 3, none⟩ = some (.slice a2 ys.length c2)) ∧ (w'.cell? ⟨w.heap.size + 1 + 1, 0, none⟩ = some (.int .i64 t) ∧ w'.cell? ⟨w.heap.size + 1 + 1, 1, none⟩ = some (.int .i64 f) ∧ w'.cell? ⟨w.heap.size + 1 + 1, 2, none⟩ = some (.int .i64 k)))
          (first | (with_reducible exact K00) | (with_reducible exact K0))
          ((go_at_call 40; refine HT.out.mono ?_; rintro e w4 ⟨rfl, hc4⟩; have S4 := S2.drew.below hc4 S2.drew.lt; have K4 := K2.drew.below hc4 K2.drew.lt; have K0 := KB.out w4 S4 K4))
        obtain ⟨⟨_, s1, _, _⟩, k0, k1, k2⟩ := K0
        have hb4 := hb3.trans (hc4.mono hb3.size)
        clear K00 KB HT S2 K2 S4 K4 hc4 hb2 hb3
        rw [dt] at H1
        generalize decide (t < n) = d1 at *
        by_cases hf : 0 ≤ f
        · have df : decide (0 ≤ f) = true := by simp [hf]
          rw [df] at H1
          go_wp2_with fail
          go_quiet (fail)
          generalize decide (f < p) = d2 at *
          have e2 : (w4.drewN nq).cell? ⟨w.heap.size + 1 + 1, 2, none⟩ = some (.int .i64 k) := k2
          have hb5 : Below w.heap.size w (w4.drewN nq) := below_drewN hb4 nq
          clear hf df s1 k0 k1 k2 hb4
          generalize w4.drewN nq = w5 at *
          clear hp2
          go_wp2
          all_goals go_ret
          all_goals exact ⟨by rw [H1.out]; simp [*] <;> omega, hb5⟩
        · have df : decide (0 ≤ f) = false := by simp [hf]
          rw [df] at H1
          go_wp2_with fail
          go_quiet (fail)
          have e2 : (w4.drewN nq).cell? ⟨w.heap.size + 1 + 1, 2, none⟩ = some (.int .i64 k) := k2
          have hb5 : Below w.heap.size w (w4.drewN nq) := below_drewN hb4 nq
          clear hf df s1 k0 k1 k2 hb4
          generalize w4.drewN nq = w5 at *
          clear hp2
          go_wp2
          all_goals go_ret
          all_goals exact ⟨by rw [H1.out]; simp [*] <;> omega, hb5⟩
      · have dt : decide (0 ≤ t) = false := by simp [ht]
        rw [dt] at H1
        obtain ⟨⟨_, s1, _, _⟩, k0, k1, k2⟩ := KB.out w2 S2 K2
        clear K00 KB HT S2 K2 hb3
        go_wp2_with fail
        go_quiet (fail)
        have hb4 : Below w.heap.size w (w2.drewN nq) := below_drewN hb2 nq
        have s1' : (w2.drewN nq).cell? ⟨w.heap.size, 1, none⟩ = some (.int .i64 b) := s1
        have k1' : (w2.drewN nq).cell? ⟨w.heap.size + 1 + 1, 1, none⟩ = some (.int .i64 f) := k1
        have k2' : (w2.drewN nq).cell? ⟨w.heap.size + 1 + 1, 2, none⟩ = some (.int .i64 k) := k2
        clear hb2 ht dt
        clear s1 k1 k2
        have s1 := s1'
        have k1 := k1'
        have k2 := k2'
        clear s1' k1' k2'
        generalize w2.drewN nq = w4 at *
        by_cases hf : 0 ≤ f
        · have df : decide (0 ≤ f) = true := by simp [hf]
          rw [df] at H1
          go_wp2_with fail
          go_quiet (fail)
          generalize decide (f < p) = d2 at *
          have e2 : (w4.drewN nq).cell? ⟨w.heap.size + 1 + 1, 2, none⟩ = some (.int .i64 k) := k2
          have hb5 : Below w.heap.size w (w4.drewN nq) := below_drewN hb4 nq
          clear hf df s1 k0 k1 k2 hb4
          generalize w4.drewN nq = w5 at *
          clear hp2
          go_wp2
          all_goals go_ret
          all_goals exact ⟨by rw [H1.out]; simp [*] <;> omega, hb5⟩
        · have df : decide (0 ≤ f) = false := by simp [hf]
          rw [df] at H1
          go_wp2_with fail
          go_quiet (fail)
          have e2 : (w4.drewN nq).cell? ⟨w.heap.size + 1 + 1, 2, none⟩ = some (.int .i64 k) := k2
          have hb5 : Below w.heap.size w (w4.drewN nq) := below_drewN hb4 nq
          clear hf df s1 k0 k1 k2 hb4
          generalize w4.drewN nq = w5 at *
          clear hp2
          go_wp2
          all_goals go_ret
          all_goals exact ⟨by rw [H1.out]; simp [*] <;> omega, hb5⟩
end Go.Proofs.YtdokmojifkggjaaDoor
