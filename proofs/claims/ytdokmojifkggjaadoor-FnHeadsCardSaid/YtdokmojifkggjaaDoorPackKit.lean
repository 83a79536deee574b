/-
  A packed row in memory, and the walks of its methods put, take and text.
-/
import Derived.Test.YtdokmojifkggjaaDoorPackZero
import Derived.Test.YtdokmojifkggjaaDoorMSetMath
import Derived.Test.YtdokmojifkggjaaDoorMFixKit
import Derived.BigRegion
import Derived.BigQuiet
import Derived.Deep.RegionHeld3
namespace Go.Proofs.YtdokmojifkggjaaDoor
open Go.RowKit
set_option linter.unusedVariables false
set_option maxRecDepth 20000

/-- A packed row lies in block g: its bytes are f, its length is n. -/
def Packed (w : World) (g : Nat) (f : Nat → Int) (n : Nat) : Prop :=
  ∃ cs : Array Value, w.heap[g]? = some (.cells cs 88 (0, 0)) ∧ cs.size = 50002 ∧ (∀ i, i < 50001 → cs[i]? = some (.int .u8 (f i))) ∧ cs[50001]? = some (.int .i64 n)
theorem Packed.byte {w : World} {g n : Nat} {f : Nat → Int} (h : Packed w g f n) (i : Nat) (hi : i < 50001) : w.cell? ⟨g, i, none⟩ = some (.int .u8 (f i)) := by
  obtain ⟨cs, h1, h2, h3, h4⟩ := h
  rw [cell_of_row w g i cs _ (0, 0) h1]; exact h3 i hi
theorem Packed.len {w : World} {g n : Nat} {f : Nat → Int} (h : Packed w g f n) : w.cell? ⟨g, 50001, none⟩ = some (.int .i64 n) := by
  obtain ⟨cs, h1, h2, h3, h4⟩ := h
  rw [cell_of_row w g 50001 cs _ (0, 0) h1]; exact h4
theorem Packed.frozen {w : World} {g n : Nat} {f : Nat → Int} (h : Packed w g f n) (i : Nat) : w.frozen? ⟨g, i, none⟩ = false := by
  obtain ⟨cs, h1, h2, h3, h4⟩ := h
  simp [World.frozen?, h1]
theorem Packed.lt {w : World} {g n : Nat} {f : Nat → Int} (h : Packed w g f n) : g < w.heap.size := by
  obtain ⟨cs, h1, h2, h3, h4⟩ := h
  exact (Array.getElem?_eq_some_iff.1 h1).1
theorem Packed.setByte {w : World} {g n : Nat} {f f' : Nat → Int} (h : Packed w g f n) (j : Nat) (hj : j < 50001) (x : Int) (hx : f' j = x) (hf : ∀ i, i ≠ j → f' i = f i) : Packed (w.setCell ⟨g, j, none⟩ (.int .u8 x)) g f' n := by
  obtain ⟨cs, h1, h2, h3, h4⟩ := h
  refine ⟨cs.setIfInBounds j (.int .u8 x), heap_setCell_same w g j cs _ _ h1, by simpa using h2, fun i hi => ?_, ?_⟩
  · rw [Array.getElem?_setIfInBounds]
    by_cases e : j = i
    · subst e; simp [h2, hx]; omega
    · simp [e, h3 i hi, hf i (fun h => e h.symm)]
  · rw [Array.getElem?_setIfInBounds, if_neg (by omega)]; exact h4
theorem Packed.setLen {w : World} {g n : Nat} {f : Nat → Int} (h : Packed w g f n) (m : Nat) : Packed (w.setCell ⟨g, 50001, none⟩ (.int .i64 m)) g f m := by
  obtain ⟨cs, h1, h2, h3, h4⟩ := h
  refine ⟨cs.setIfInBounds 50001 (.int .i64 m), heap_setCell_same w g 50001 cs _ _ h1, by simpa using h2, fun i hi => ?_, ?_⟩
  · rw [Array.getElem?_setIfInBounds, if_neg (by omega)]; exact h3 i hi
  · rw [Array.getElem?_setIfInBounds]; simp [h2]
theorem Packed.of_heap {w w' : World} {g n : Nat} {f : Nat → Int} (h : Packed w g f n) (e : w'.heap[g]? = w.heap[g]?) : Packed w' g f n := by
  obtain ⟨cs, h1, h2⟩ := h
  exact ⟨cs, by rw [e]; exact h1, h2⟩
theorem packed_new (w : World) (l : List Value) (h : l = List.replicate 50001 (.int .u8 0) ++ [.int .i64 0]) : Packed (w.alloc (.cells l.toArray 88)) w.heap.size (fun _ => 0) 0 := by
  refine ⟨l.toArray, heap_alloc_new w _, ?_, fun i hi => ?_, ?_⟩
  · rw [h, List.size_toArray, List.length_append, List.length_replicate]; rfl
  · rw [h, List.getElem?_toArray, List.getElem?_append_left (by rw [List.length_replicate]; exact hi), List.getElem?_replicate, if_pos hi]
  · rw [h, List.getElem?_toArray, List.getElem?_append_right (by rw [List.length_replicate]; exact Nat.le_refl _), List.length_replicate]; rfl

set_option maxHeartbeats 1600000 in
theorem put_any (g n : Nat) (f : Nat → Int) (y : Int) (w : World) (h : Packed w g f n) (hn : (n : Int) ≤ 400000) (hy : y = 0 ∨ y = 1)
    (h0 : 0 ≤ f (n / 8)) (h1 : f (n / 8) ≤ 255) (hl : f (n / 8) % 2 ^ (8 - n % 8) = 0) (f' : Nat → Int) (hf : f' (n / 8) = f (n / 8) + y * 2 ^ (7 - n % 8)) (hf' : ∀ i, i ≠ n / 8 → f' i = f i) :
    Calls Tryd.prog 60 #[.pointer (some ⟨g, 0, none⟩), .int .u8 y] w fun e w' => e = .returned (.tuple #[]) ∧ Packed w' g f' (n + 1) ∧ w.grownBy w' (some g) := by
  have HP : Hid (Packed w g f n) := h
  have hq : n / 8 < 50001 := by omega
  have c1 := h.byte (n / 8) hq
  have c2 := h.len
  have z1 := h.frozen (n / 8)
  have z2 := h.frozen 50001
  clear h
  have HE : Hid (bits BinOp.or IntKind.u8 (f (n / 8)) (y * 2 ^ (7 - n % 8) % 256) = f' (n / 8)) := by
    show _ = _
    have hp : (1 : Int) ≤ 2 ^ (7 - n % 8) ∧ (2 : Int) ^ (7 - n % 8) ≤ 128 := by
      have hc : n % 8 = 0 ∨ n % 8 = 1 ∨ n % 8 = 2 ∨ n % 8 = 3 ∨ n % 8 = 4 ∨ n % 8 = 5 ∨ n % 8 = 6 ∨ n % 8 = 7 := by omega
      rcases hc with e | e | e | e | e | e | e | e <;> rw [e] <;> decide
    have hm : y * 2 ^ (7 - n % 8) % 256 = y * 2 ^ (7 - n % 8) := by
      rcases hy with rfl | rfl
      · simp
      · rw [Int.one_mul]; omega
    rw [hm, or_put _ _ _ (by omega) h0 h1 hy hl, hf]
  go_enter Tryd.func60, Tryd.ntmps60
  go_wp2_with fail
  go_region
  rw [HE.out]
  have P1 : Packed ((w.setCell ⟨g, n / 8, none⟩ (.int .u8 (f' (n / 8)))).drew) g f' n := (HP.out.setByte (n / 8) hq _ rfl hf').of_heap rfl
  have G1 : w.grownBy ((w.setCell ⟨g, n / 8, none⟩ (.int .u8 (f' (n / 8)))).drew) (some g) := ⟨rfl, rfl, rfl, by simp, fun k _ hne => heap_setCell_other w ⟨g, n / 8, none⟩ k _ (fun h => hne (by rw [h]))⟩
  clear c1 c2 z1 z2 HP
  generalize (w.setCell ⟨g, n / 8, none⟩ (.int .u8 (f' (n / 8)))).drew = w1 at *
  have c3 := P1.len
  have z3 := P1.frozen 50001
  have P2 : Packed (w1.setCell ⟨g, 50001, none⟩ (.int .i64 ((n : Int) + 1))) g f' (n + 1) := P1.setLen (n + 1)
  have G2 : w1.grownBy (w1.setCell ⟨g, 50001, none⟩ (.int .i64 ((n : Int) + 1))) (some g) := ⟨rfl, rfl, rfl, by simp, fun k _ hne => heap_setCell_other w1 ⟨g, 50001, none⟩ k _ (fun h => hne (by rw [h]))⟩
  go_wp2
  go_end0
  exact ⟨rfl, P2, G1.trans G2⟩

theorem u8_and1 (n : Int) : bits BinOp.and IntKind.u8 n 1 = n % 2 := by
  have h1 : (BitVec.ofInt 8 1).toNat = 2 ^ 1 - 1 := by decide
  have key : (BitVec.ofInt 8 n &&& BitVec.ofInt 8 1).toNat = (n % ((2 ^ 8 : Nat) : Int)).toNat % 2 ^ 1 := by
    rw [BitVec.toNat_and, BitVec.toNat_ofInt, h1, Nat.and_two_pow_sub_one_eq_mod]
  show IntKind.u8.wrap ((BitVec.ofInt 8 n &&& BitVec.ofInt 8 1).toNat : Nat) = n % 2
  rw [key, IntKind.wrap_u8]
  omega
set_option maxHeartbeats 1600000 in
theorem take_any (g n a : Nat) (f : Nat → Int) (w : World) (h : Packed w g f n) (ha : (a : Int) < 400008) (h0 : 0 ≤ f (a / 8)) (h1 : f (a / 8) ≤ 255) :
    Calls Tryd.prog 63 #[.pointer (some ⟨g, 0, none⟩), .int .i64 a] w fun e w' => e = .returned (.int .u8 (f (a / 8) / 2 ^ (7 - a % 8) % 2)) ∧ w' = w := by
  have hq : a / 8 < 50001 := by omega
  have c1 := h.byte (a / 8) hq
  clear h
  go_enter Tryd.func63, Tryd.ntmps63
  go_wp2
  rw [u8_and1]
  go_ret
  exact ⟨rfl, rfl⟩

theorem conv_packed {w : World} {g n : Nat} {f : Nat → Int} (h : Packed w g f n) (m : Nat) (hm : m ≤ 50001) :
    (convert 22 9 (.slice (some ⟨g, 0, none⟩) m 50001)).run Tryd.prog w = .ok (.string (strOfNums ((List.range m).map f))) w := by
  refine run_convert_bytes_arg w 22 5 Tryd.underlying22 Tryd.underlying5 g 0 m 50001 ((List.range m).map f) (by simp) (fun i hi => ?_) 9 Tryd.underlying9
  rw [Nat.zero_add, h.byte i (by omega)]
  simp [hi]
theorem slice_packed (W : World) (g : Nat) (h : Int) (m : Nat) (hm : h = (m : Int)) (h2 : m ≤ 50001) :
    (Instr.sliceAt 86 (.pointer (some ⟨g, 0, none⟩)) none (some (.int .i64 h)) none).run Tryd.prog W = .ok (.slice (some ⟨g, 0, none⟩) m 50001) W := by
  subst hm
  have ha : Tryd.prog.arrayLen 86 = 50001 := by kernel_rfl
  have he : Tryd.prog.elem 86 = 5 := by kernel_rfl
  rw [run_sliceAt_array_h W 86 ⟨g, 0, none⟩ (by rw [ha, he]; exact Tryd.underlying86) .i64 (m : Int) (by omega) (by rw [ha]; omega), he, ha, Tryd.sizeOf5]
  simp [Result.andThen, slicedAt, Addr.add]
theorem slice_packed_all (W : World) (g : Nat) :
    (Instr.sliceAt 86 (.pointer (some ⟨g, 0, none⟩)) none none none).run Tryd.prog W = .ok (.slice (some ⟨g, 0, none⟩) 50001 50001) W := by
  have ha : Tryd.prog.arrayLen 86 = 50001 := by kernel_rfl
  have he : Tryd.prog.elem 86 = 5 := by kernel_rfl
  rw [run_sliceAt_array_all W 86 ⟨g, 0, none⟩ (by rw [ha, he]; exact Tryd.underlying86), he, ha, Tryd.sizeOf5]
  simp [Result.andThen, slicedAt, Addr.add]
set_option maxHeartbeats 1600000 in
theorem text_any (g n : Nat) (f : Nat → Int) (w : World) (h : Packed w g f n) (hn : (n : Int) ≤ 400001) :
    Calls Tryd.prog 61 #[.pointer (some ⟨g, 0, none⟩)] w fun e w' => e = .returned (.string (strOfNums ((List.range ((n + 7) / 8)).map f))) ∧ w' = w.drew := by
  have hconv := conv_packed h ((n + 7) / 8) (by omega)
  have hconv' := conv_packed (h.of_heap (w' := w.drew) rfl) ((n + 7) / 8) (by omega)
  have c2 := h.len
  have hsl := slice_packed w.drew g (((n : Int) + 8 - 1) / 8) ((n + 7) / 8) (by omega) (by omega)
  clear h
  go_enter Tryd.func61, Tryd.ntmps61
  go_wp2_with fail
  go_region
  go_wp2
  go_ret
  exact ⟨rfl, rfl⟩
end Go.Proofs.YtdokmojifkggjaaDoor
