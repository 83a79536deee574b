/-
  The walks of laws.markStringS and laws.heldStringS over rows that the calls own.
-/
import Derived.Test.YtabpdiekmljceaaDoorMarkText
import Derived.Test.YtabpdiekmljceaaDoorTextEq
import Derived.Deep.AppendLies
namespace Go.Proofs.YtabpdiekmljceaaDoor
open Go.RowKit
set_option linter.unusedVariables false

def marksL (n : Nat) : List ByteArray := (List.range n).map fun i => markT (i + 1)
theorem marksL_length (n : Nat) : (marksL n).length = n := by simp [marksL]
theorem marksL_succ (n : Nat) : marksL (n + 1) = marksL n ++ [markT (n + 1)] := by simp [marksL, List.range_succ]
theorem marksL_getD (n i : Nat) (h : i < n) : (marksL n).getD i ByteArray.empty = markT (i + 1) := by
  simp [marksL, List.getD_eq_getElem?_getD, h]
theorem set_mark (j n : Nat) (xs : List Value) (hj : j < n) (hx : xs.length = n) : ((marksL j).map Value.string ++ xs.drop j).set j (.string (markT (j + 1))) = (marksL (j + 1)).map Value.string ++ xs.drop (j + 1) := by
  have hl : ((marksL j).map Value.string).length = j := by simp [marksL_length]
  rw [List.set_append_right _ _ (by omega), hl, Nat.sub_self, marksL_succ, List.map_append, List.append_assoc]
  congr 1
  rw [List.drop_eq_getElem_cons (by omega)]
  rfl

set_option maxHeartbeats 800000 in
theorem markStringS_any (v : Value) (n B : Nat) (xs : List Value) (w : World) (hown : w.ownsRow B 9 1 v n xs) (hn : n ≤ 1000000) :
    Calls Tryd.prog 15 #[v, .int .i64 1] w fun e w' => e = .returned (.int .i64 (n + 1)) ∧ w'.ownsRow B 9 1 v n ((marksL n).map Value.string) ∧ w.grownBy w' v.ownBlock := by
  have hxl : xs.length = n := by have := hown.1; omega
  by_cases h0 : n = 0
  · subst h0
    have hx0 : xs = [] := List.eq_nil_of_length_eq_zero hxl
    subst hx0
    obtain ⟨g, c, rfl⟩ : ∃ g c, v = .slice g 0 c := by
      rcases hown.2 with ⟨rfl, _⟩ | ⟨g, cap, cur, rfl, _⟩
      · exact ⟨_, _, rfl⟩
      · exact ⟨_, _, rfl⟩
    go_enter Tryd.func15, Tryd.ntmps15
    go_wp2
    refine wp_loop_rounds 1 ?_
    rw [rounds_succ]
    go_wp2
    go_ret
    exact ⟨rfl, hown, World.grownBy.refl _ _⟩
  · obtain ⟨g, cap, rfl, hBg, hgl⟩ := hown.form (by omega)
    go_enter Tryd.func15, Tryd.ntmps15
    go_wp2
    go_loopw [1, 5] (fun a i wr => ∃ j : Nat, j ≤ n ∧ i = .int .i64 j ∧ a = .int .i64 (j + 1 : Nat) ∧ wr.ownsRow B 9 1 (.slice (some ⟨g, 0, none⟩) n cap) n ((marksL j).map Value.string ++ xs.drop j) ∧ w.grownBy wr (some g))
      (fun _ i _ => n - (intOf i).toNat)
    case atStart => exact ⟨0, Nat.zero_le _, rfl, rfl, hown, World.grownBy.refl _ _⟩
    case round =>
      obtain ⟨j, hj, rfl, rfl, ho, hgr⟩ := hrel
      by_cases hlt : j < n
      · have l0 : (0 : Int) ≤ (j : Int) := by omega
        have l1 : (j : Int) < (n : Int) := by omega
        have hgl' : g < wr.heap.size := Nat.lt_of_lt_of_le hgl hgr.size
        clear hown
        go_wp2_with (go_at_call 27; refine (markText_any (j + 1) _ (by omega) (by omega)).mono ?_; rintro e w1 ⟨rfl, hb1⟩; have ho1 := owns_below ho hb1 (Nat.le_refl _); have hfr := ho1.frozenAt j; obtain ⟨u, hce⟩ := cell_some ho1 (by omega))
        have hst := ho1.stored j (.string (markT (j + 1)))
        rw [set_mark j n xs hlt hxl] at hst
        have hgr1 := (hgr.trans (grown_below hb1 (some g))).trans hst.2
        have ho2 := hst.1
        clear hst ho1 ho hb1 hfr hce hgr
        go_roundw
        case rel => exact ⟨j + 1, by omega, by go_num, by go_num, ho2, hgr1⟩
        case measure => simp [intOf]; omega
      · obtain rfl : j = n := by omega
        go_wp2
        go_ret
        rw [← hxl, List.drop_length, List.append_nil, hxl] at ho
        exact ⟨by simp, ho, hgr⟩

set_option maxHeartbeats 800000 in
theorem heldStringS_any (v : Value) (n : Nat) (w : World) (h : TextRow w v (marksL n)) (hn : n ≤ 1000000) :
    Calls Tryd.prog 16 #[v, .int .i64 1] w fun e w' => e = .returned (.int .i64 (n + 1)) ∧ Below w.heap.size w w' := by
  have hml := marksL_length n
  rcases h with ⟨a, c, rfl, h0⟩ | ⟨g, c, rfl, hg, hc⟩
  · have h0' : n = 0 := by rw [← hml, h0]; rfl
    subst h0'
    go_enter Tryd.func16, Tryd.ntmps16
    go_wp2
    refine wp_loop_rounds 1 ?_
    rw [rounds_succ]
    go_wp2
    go_ret
    exact ⟨rfl, Below.refl _ _⟩
  · rw [hml] at hc
    rw [hml]
    have H1 : Hid (∀ i, i < n → w.cell? ⟨g, i, none⟩ = some (.string (markT (i + 1)))) := fun i hi => by rw [hc i hi, marksL_getD n i hi]
    clear hc hml
    go_enter Tryd.func16, Tryd.ntmps16
    go_wp2
    go_loopw [1, 5] (fun a i wr => ∃ j : Nat, j ≤ n ∧ i = .int .i64 j ∧ a = .int .i64 (j + 1 : Nat) ∧ Below w.heap.size w wr) (fun _ i _ => n - (intOf i).toNat)
    case atStart => exact ⟨0, Nat.zero_le _, rfl, rfl, Below.refl _ _⟩
    case round =>
      obtain ⟨j, hj, rfl, rfl, hb⟩ := hrel
      by_cases hlt : j < n
      · have l0 : (0 : Int) ≤ (j : Int) := by omega
        have l1 : (j : Int) < (n : Int) := by omega
        have hgw : g < wr.heap.size := Nat.lt_of_lt_of_le hg hb.size
        have hcell : wr.cell? ⟨g, j, none⟩ = some (.string (markT (j + 1))) := (hb.cell (p := ⟨g, j, none⟩) hg).trans (H1.out j hlt)
        go_wp2_with fail
        go_region_held3 (fun w' => w'.cell? ⟨g, j, none⟩ = some (.string (markT (j + 1)))) (first | go_keep | (rw [hb1.cell (p := ⟨g, j, none⟩) (by simpa using hgw)]; simpa using hcell))
          ((go_at_call 27; refine (markText_any (j + 1) _ (by omega) (by omega)).mono ?_; rintro e w1 ⟨rfl, hb1⟩))
        all_goals
          have hb2 : Below w.heap.size w w1 := hb.drew.trans (hb1.mono hb.size)
          clear hb1 hb hcell
          go_wp2
          go_roundw
          case rel => exact ⟨j + 1, by omega, by go_num, by go_num, hb2⟩
          case measure => simp [intOf]; omega
      · obtain rfl : j = n := by omega
        go_wp2
        go_ret
        exact ⟨by simp, hb⟩
end Go.Proofs.YtabpdiekmljceaaDoor
