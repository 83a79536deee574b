/-
  The walks of spec.l10Row and spec.l10Sums.
-/
import Derived.Test.YtlejfkjanllgbaaDoorEightMath
import Derived.Test.YtlejfkjanllgbaaDoorSignWalk
import Derived.Test.YtlejfkjanllgbaaDoorFourB
import Derived.Test.YtlejfkjanllgbaaDoorIntAll
import Derived.BigQuiet
namespace Go.Proofs.YtlejfkjanllgbaaDoor
open Go.RowKit
set_option linter.unusedVariables false
set_option maxRecDepth 20000

set_option maxHeartbeats 1600000 in
theorem specRow (f : Nat → Int) (b off cap r u : Nat) (w : World) (hc : ∀ k, k < 64 → w.cell? ⟨b, off + k, none⟩ = some (.int .i64 (f k))) (hf : ∀ i, i < 64 → -100000000 ≤ f i ∧ f i ≤ 100000000) (hr : r < 8) (hu : u < 8) :
    Calls Tryd.prog 90 #[.slice (some ⟨b, off, none⟩) 64 cap, .int .i64 (r : Int), .int .i64 (u : Int)] w fun e w' => e = .returned (.int .i64 (dot u (fun p => f (r * 8 + p)))) ∧ Below w.heap.size w w' := by
  obtain ⟨ρ, hρ⟩ : ∃ ρ : Nat → Int, ρ = fun p => f (r * 8 + p) := ⟨_, rfl⟩
  have HC : Hid (∀ k, k < 8 → w.cell? ⟨b, off + (8 * r + k), none⟩ = some (.int .i64 (ρ k))) := fun k hk => by
    rw [hc (8 * r + k) (by omega), hρ, Nat.mul_comm r 8]
  have HI : Hid (∀ k, k < 8 → -100000000 ≤ ρ k ∧ ρ k ≤ 100000000) := fun k hk => by rw [hρ]; exact hf _ (by omega)
  have HD : Hid (dot u (fun p => f (r * 8 + p)) = sumTo (fun p => sg u p * ρ p) 8) := by rw [← hρ]; rfl
  have HB : Hid (∀ k : Nat, k ≤ 8 → -((k : Int) * 100000000) ≤ sumTo (fun p => sg u p * ρ p) k ∧ sumTo (fun p => sg u p * ρ p) k ≤ (k : Int) * 100000000) := fun k hk => sumTo_bd (fun i hi => sg_bd u i (HI.out i (by omega)))
  have HS : Hid (∀ (k : Nat) w', k < 8 → Calls Tryd.prog 91 #[.int .i64 (u : Int), .int .i64 (k : Int)] w' (fun e w'' => e = .returned (.int .i64 (sg u k)) ∧ w'' = w')) := fun k w' hk => specSign u k w' hu hk
  have r0 : (0 : Int) ≤ (r : Int) := by omega
  have r1 : (r : Int) < 8 := by omega
  clear hc hf hρ hr hu
  go_enter Tryd.func90, Tryd.ntmps90
  go_wp2
  go_loopw [7, 8] (fun v i wr => ∃ k : Nat, k ≤ 8 ∧ i = .int .i64 (k : Int) ∧ v = .int .i64 (sumTo (fun p => sg u p * ρ p) k) ∧ Hid (∀ k, k < 8 → wr.cell? ⟨b, off + (8 * r + k), none⟩ = some (.int .i64 (ρ k))) ∧ Below w.heap.size w wr) (fun _ i _ => 8 - (intOf i).toNat)
  case atStart => exact ⟨0, by omega, rfl, rfl, HC, Below.refl _ _⟩
  case round =>
    obtain ⟨k, hk, rfl, rfl, HK, hb⟩ := hrel
    by_cases hlt : k < 8
    · have l0 : (0 : Int) ≤ (k : Int) := by omega
      have l1 : (k : Int) < 8 := by omega
      obtain ⟨t0, t1⟩ := HB.out k hk
      obtain ⟨x0, x1⟩ := HI.out k hlt
      have d0 := HK.out k hlt
      have HN : Hid (sumTo (fun p => sg u p * ρ p) (k + 1) = sumTo (fun p => sg u p * ρ p) k + sg u k * ρ k) := rfl
      have HCk : Hid (∀ w', Calls Tryd.prog 91 #[.int .i64 (u : Int), .int .i64 (k : Int)] w' (fun e w'' => e = .returned (.int .i64 (sg u k)) ∧ w'' = w')) := fun w' => HS.out k w' hlt
      have hsg := sg_one u k
      generalize sumTo (fun p => sg u p * ρ p) k = t at *
      generalize ρ k = x at *
      have hk8 : (k : Int) ≤ 8 := by omega
      have tb0 : -800000000 ≤ t := by omega
      have tb1 : t ≤ 800000000 := by omega
      clear t0 t1
      rcases hsg with h1 | h1
      all_goals
        rw [h1] at HN HCk
        clear h1
        go_wp2_with fail
        go_quiet ((go_at_call 91; exact Calls.quiet_of_same (HCk.out _)))
        go_wp2
        refine ⟨⟨k + 1, by omega, by go_num, by rw [HN.out]; go_num, HK, below_drewN hb _⟩, ?_⟩
        simp [intOf]; omega
    · obtain rfl : k = 8 := by omega
      go_wp2
      go_ret
      exact ⟨by rw [HD.out]; rfl, hb⟩

/-- The sums of rows, row by row. -/
def halfF (f : Nat → Int) (i : Nat) : Int := dot (i % 8) (fun p => f (i / 8 * 8 + p))
theorem halfF_at (f : Nat → Int) (r v : Nat) (hv : v < 8) : halfF f (r * 8 + v) = dot v (fun p => f (r * 8 + p)) := by
  unfold halfF
  rw [show (r * 8 + v) % 8 = v by omega, show (r * 8 + v) / 8 = r by omega]
theorem halfF_bd {M : Int} {f : Nat → Int} (h : ∀ i, i < 64 → -M ≤ f i ∧ f i ≤ M) : ∀ i, i < 64 → -(8 * M) ≤ halfF f i ∧ halfF f i ≤ 8 * M := fun i hi =>
  dot_bd _ (fun p hp => h _ (by omega))
theorem eightF_half (f : Nat → Int) (u v : Nat) (hu : u < 8) (hv : v < 8) : eightF f (u * 8 + v) = dot u (fun i => halfF f (i * 8 + v)) := by
  rw [eightF_at f u v hu hv]
  exact dot_congr fun p hp => (halfF_at f p v hv).symm
theorem listF_snoc (n : Nat) (f : Nat → Int) : (listF n f).map (Value.int .i64) ++ [.int .i64 (f n)] = (listF (n + 1) f).map (Value.int .i64) := by
  unfold listF
  rw [List.range_succ, List.map_append, List.map_append]
  rfl

set_option maxHeartbeats 3200000 in
theorem specSums (f : Nat → Int) (a : Option Addr) (cap : Nat) (w : World) (h : Ints w a (listF 64 f)) (hf : ∀ i, i < 64 → -12500000 ≤ f i ∧ f i ≤ 12500000) :
    Calls Tryd.prog 62 #[.slice a 64 cap] w fun e w' => (∃ v, e = .returned v ∧ w'.ownsRow w.heap.size 3 1 v 64 ((listF 64 (eightF f)).map (Value.int .i64))) ∧ Below w.heap.size w w' := by
  obtain ⟨i0, hi0, hz0, hz1, hz2⟩ := info_parts infoI
  obtain ⟨b, off, ha, HI⟩ := ints_cells h (by omega)
  subst ha
  have HR : Hid (∀ (r u : Nat) w', r < 8 → u < 8 → Below w.heap.size w w' → Calls Tryd.prog 90 #[.slice (some ⟨b, off, none⟩) 64 cap, .int .i64 (r : Int), .int .i64 (u : Int)] w' (fun e w'' => e = .returned (.int .i64 (halfF f (r * 8 + u))) ∧ Below w'.heap.size w' w'')) := fun r u w' hr hu hb => by
    rw [halfF_at f r u hu]
    exact specRow f b off cap r u w' (HI.out w' hb) (fun i hi => by have := hf i hi; omega) hr hu
  have HH : Hid (∀ i, i < 64 → -100000000 ≤ halfF f i ∧ halfF f i ≤ 100000000) := fun i hi => by have := halfF_bd hf i hi; omega
  have HE : Hid (∀ u v, u < 8 → v < 8 → eightF f (u * 8 + v) = dot u (fun i => halfF f (i * 8 + v))) := fun u v hu hv => eightF_half f u v hu hv
  clear h hf HI
  generalize halfF f = g at *
  generalize eightF f = q at *
  go_enter Tryd.func62, Tryd.ntmps62
  go_wp2_with fail
  go_loopw [3, 4] (fun v i wr => ∃ k : Nat, k ≤ 8 ∧ i = .int .i64 (k : Int) ∧ wr.ownsRow w.heap.size 3 1 v (k * 8) ((listF (k * 8) g).map (Value.int .i64)) ∧ Below w.heap.size w wr) (fun _ i _ => 8 - (intOf i).toNat)
  case atStart => exact ⟨0, by omega, rfl, World.ownsRow_made w #[] 0 (Nat.le_refl _) (by unfold maxLen; omega) rfl, (Below.refl _ _).alloc (Nat.le_refl _) _⟩
  case round =>
    obtain ⟨k, hk, rfl, hown, hb⟩ := hrel
    by_cases hlt : k < 8
    · have l0 : (0 : Int) ≤ (k : Int) := by omega
      have l1 : (k : Int) < 8 := by omega
      go_wp2_with fail
      go_loopw [3, 5] (fun v i wr => ∃ c : Nat, c ≤ 8 ∧ i = .int .i64 (c : Int) ∧ wr.ownsRow w.heap.size 3 1 v (k * 8 + c) ((listF (k * 8 + c) g).map (Value.int .i64)) ∧ Below w.heap.size w wr) (fun _ i _ => 8 - (intOf i).toNat)
      case atStart => exact ⟨0, by omega, rfl, hown, hb⟩
      case round =>
        obtain ⟨c, hc, rfl, hown1, hb1⟩ := hrel
        clear hown hb
        by_cases hlc : c < 8
        · have q0 : (0 : Int) ≤ (c : Int) := by omega
          have q1 : (c : Int) < 8 := by omega
          have HRk : Hid (∀ w', Below w.heap.size w w' → Calls Tryd.prog 90 #[.slice (some ⟨b, off, none⟩) 64 cap, .int .i64 (k : Int), .int .i64 (c : Int)] w' (fun e w'' => e = .returned (.int .i64 (g (k * 8 + c))) ∧ Below w'.heap.size w' w'')) := fun w' hb => HR.out k c w' hlt hlc hb
          have HL := listF_snoc (k * 8 + c) g
          have HL' : Hid ((listF (k * 8 + c) g).map (Value.int .i64) ++ [.int .i64 (g (k * 8 + c))] = (listF (k * 8 + c + 1) g).map (Value.int .i64)) := HL
          clear HL
          generalize g (k * 8 + c) = y at *
          go_wp2_with (first
            | (go_at_call 90; refine (HRk.out _ hb1).mono ?_; rintro e w2 ⟨rfl, hx⟩; have hown2 := owned_below hown1 hx; have hb2 := hb1.trans (hx.mono hb1.size); clear hx)
            | (at_builtin; refine wpList_append_lies _ (by rfl) _ _ 24 (by rfl) w.heap.size 3 i0 (.int .i64 0) 1 8 Tryd.underlying24 hi0 hz0 hz1 hz2 rfl (by omega) u3 (k * 8 + c) _ (by rfl) (hown2.alloc _) ⟨w2.heap.size, 0, none⟩ 1 1 [.int .i64 y] (by rfl) (by rfl) (World.news_of_block (cs := #[.int .i64 y]) (t := 3) (fr := (0, 0)) (heap_alloc_new w2 _)) (by simp [Value.oneCell']) (by omega) (by unfold maxLen; omega) (by omega) (by have := hb2.size; simp; omega) (w2.heap.size + 1) (by simp) ?_; intro gg cp w4 hown4 hgrow hat hlt2))
          rw [HL'.out] at hown4
          refine ⟨⟨c + 1, by omega, by go_num, hown4, (hb2.alloc hb2.size _).grown hgrow (by have := hb2.size; simp; omega) (own_base hown2)⟩, ?_⟩
          simp [intOf]; omega
        · obtain rfl : c = 8 := by omega
          go_wp2_with fail
          refine ⟨⟨k + 1, by omega, by go_num, by rw [show (k + 1) * 8 = k * 8 + 8 by omega]; exact hown1, hb1⟩, ?_⟩
          simp [intOf]; omega
    · have hl8 : ¬ (k : Int) < 8 := by omega
      generalize wr = wh at *
      rw [show k * 8 = 64 by omega] at hown
      obtain ⟨gv, cv, rfl, hbv, hlv⟩ := hown.form (by omega)
      have HG : Hid (∀ w', Below wh.heap.size wh w' → ∀ i, i < 64 → w'.cell? ⟨gv, i, none⟩ = some (.int .i64 (g i))) := fun w' hw i hi => by
        rw [hw.cell (p := ⟨gv, i, none⟩) hlv, hown.cellAt i (by omega), map_at g hi]
      clear hown hbv hlv HR
      generalize hz : wh.heap.size = z at *
      have hwz : w.heap.size ≤ z := by rw [← hz]; exact hb.size
      go_wp2_with fail
      go_loopw [6, 7] (fun v i wr => ∃ u : Nat, u ≤ 8 ∧ i = .int .i64 (u : Int) ∧ wr.ownsRow z 3 1 v (u * 8) ((listF (u * 8) q).map (Value.int .i64)) ∧ Below z wh wr) (fun _ i _ => 8 - (intOf i).toNat)
      case atStart => exact ⟨0, by omega, rfl, by rw [← hz]; exact World.ownsRow_made wh #[] 0 (Nat.le_refl _) (by unfold maxLen; omega) rfl, by rw [← hz]; exact (Below.refl _ _).alloc (Nat.le_refl _) _⟩
      case round =>
        obtain ⟨u, hu, rfl, hown, hc⟩ := hrel
        by_cases hlu : u < 8
        · have p0 : (0 : Int) ≤ (u : Int) := by omega
          have p1 : (u : Int) < 8 := by omega
          go_wp2_with fail
          go_loopw [6, 8] (fun v i wr => ∃ c : Nat, c ≤ 8 ∧ i = .int .i64 (c : Int) ∧ wr.ownsRow z 3 1 v (u * 8 + c) ((listF (u * 8 + c) q).map (Value.int .i64)) ∧ Below z wh wr) (fun _ i _ => 8 - (intOf i).toNat)
          case atStart => exact ⟨0, by omega, rfl, hown, hc⟩
          case round =>
            obtain ⟨c, hc8, rfl, hown1, hc1⟩ := hrel
            clear hown hc
            by_cases hlc : c < 8
            · have q0 : (0 : Int) ≤ (c : Int) := by omega
              have q1 : (c : Int) < 8 := by omega
              have HL' : Hid ((listF (u * 8 + c) q).map (Value.int .i64) ++ [.int .i64 (q (u * 8 + c))] = (listF (u * 8 + c + 1) q).map (Value.int .i64)) := listF_snoc (u * 8 + c) q
              have HD : Hid (q (u * 8 + c) = sumTo (fun i => sg u i * g (i * 8 + c)) 8) := HE.out u c hlu hlc
              have HB : Hid (∀ k : Nat, k ≤ 8 → -((k : Int) * 100000000) ≤ sumTo (fun i => sg u i * g (i * 8 + c)) k ∧ sumTo (fun i => sg u i * g (i * 8 + c)) k ≤ (k : Int) * 100000000) := fun k hk => sumTo_bd (fun i hi => sg_bd u i (HH.out _ (by omega)))
              have HS : Hid (∀ (k : Nat) w', k < 8 → Calls Tryd.prog 91 #[.int .i64 (u : Int), .int .i64 (k : Int)] w' (fun e w'' => e = .returned (.int .i64 (sg u k)) ∧ w'' = w')) := fun k w' hk => specSign u k w' hlu hk
              have HO : Hid (wr.ownsRow z 3 1 u6 (u * 8 + c) ((listF (u * 8 + c) q).map (Value.int .i64))) := hown1
              clear hown1
              go_wp2_with fail
              go_loopw [9, 10] (fun v i wr => ∃ k : Nat, k ≤ 8 ∧ i = .int .i64 (k : Int) ∧ v = .int .i64 (sumTo (fun i => sg u i * g (i * 8 + c)) k) ∧ Hid (wr.ownsRow z 3 1 u6 (u * 8 + c) ((listF (u * 8 + c) q).map (Value.int .i64))) ∧ Below z wh wr) (fun _ i _ => 8 - (intOf i).toNat)
              case atStart => exact ⟨0, by omega, rfl, rfl, HO, hc1⟩
              case round =>
                obtain ⟨k, hk, rfl, rfl, HO2, hc2⟩ := hrel
                clear HO hc1
                by_cases hlk : k < 8
                · have m0 : (0 : Int) ≤ (k : Int) := by omega
                  have m1 : (k : Int) < 8 := by omega
                  obtain ⟨t0, t1⟩ := HB.out k hk
                  obtain ⟨x0, x1⟩ := HH.out (k * 8 + c) (by omega)
                  have d0 := HG.out _ hc2 (k * 8 + c) (by omega)
                  have d1 : wr.cell? ⟨gv, 8 * k + c, none⟩ = some (.int .i64 (g (k * 8 + c))) := by rw [Nat.mul_comm 8 k]; exact d0
                  have HN : Hid (sumTo (fun i => sg u i * g (i * 8 + c)) (k + 1) = sumTo (fun i => sg u i * g (i * 8 + c)) k + sg u k * g (k * 8 + c)) := rfl
                  have HCk : Hid (∀ w', Calls Tryd.prog 91 #[.int .i64 (u : Int), .int .i64 (k : Int)] w' (fun e w'' => e = .returned (.int .i64 (sg u k)) ∧ w'' = w')) := fun w' => HS.out k w' hlk
                  have hsg := sg_one u k
                  generalize sumTo (fun i => sg u i * g (i * 8 + c)) k = t at *
                  generalize g (k * 8 + c) = x at *
                  have hk8 : (k : Int) ≤ 8 := by omega
                  have tb0 : -800000000 ≤ t := by omega
                  have tb1 : t ≤ 800000000 := by omega
                  clear t0 t1 d0
                  rcases hsg with h1 | h1
                  all_goals
                    rw [h1] at HN HCk
                    clear h1
                    go_wp2_with fail
                    go_quiet ((go_at_call 91; exact Calls.quiet_of_same (HCk.out _)))
                    go_wp2
                    refine ⟨⟨k + 1, by omega, by go_num, by rw [HN.out]; go_num, HO2, below_drewN hc2 _⟩, ?_⟩
                    simp [intOf]; omega
                · obtain rfl : k = 8 := by omega
                  rw [← HD.out]
                  generalize q (u * 8 + c) = y at *
                  have hown2 := HO2.out
                  have hs2 : z ≤ wr.heap.size := by rw [← hz]; exact hc2.size
                  go_wp2_with (at_builtin; refine wpList_append_lies _ (by rfl) _ _ 24 (by rfl) z 3 i0 (.int .i64 0) 1 8 Tryd.underlying24 hi0 hz0 hz1 hz2 rfl (by omega) u6 (u * 8 + c) _ (by rfl) (hown2.alloc _) ⟨wr.heap.size, 0, none⟩ 1 1 [.int .i64 y] (by rfl) (by rfl) (World.news_of_block (cs := #[.int .i64 y]) (t := 3) (fr := (0, 0)) (heap_alloc_new wr _)) (by simp [Value.oneCell']) (by omega) (by unfold maxLen; omega) (by omega) (by simp; omega) (wr.heap.size + 1) (by simp) ?_; intro gg cp w4 hown4 hgrow hat hlt2)
                  rw [HL'.out] at hown4
                  refine ⟨⟨c + 1, by omega, by go_num, hown4, (hc2.alloc hs2 _).grown hgrow (by simp; omega) (own_base hown2)⟩, ?_⟩
                  simp [intOf]; omega
            · obtain rfl : c = 8 := by omega
              go_wp2_with fail
              refine ⟨⟨u + 1, by omega, by go_num, by rw [show (u + 1) * 8 = u * 8 + 8 by omega]; exact hown1, hc1⟩, ?_⟩
              simp [intOf]; omega
        · obtain rfl : u = 8 := by omega
          go_wp2
          go_ret
          exact ⟨⟨_, rfl, own_mono hown hwz⟩, hb.trans (hc.mono hwz)⟩
end Go.Proofs.YtlejfkjanllgbaaDoor
