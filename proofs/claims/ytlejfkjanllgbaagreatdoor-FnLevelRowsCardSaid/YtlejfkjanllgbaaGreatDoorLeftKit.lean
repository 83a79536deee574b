/-
  Scans and turns of lists that are known number by number, of both.
-/
import Derived.Test.YtlejfkjanllgbaaGreatDoorLeftFun
import Derived.Test.YtlejfkjanllgbaaGreatDoorFEAll
import Derived.Test.YtlejfkjanllgbaaGreatDoorScanAll
import Derived.Test.YtlejfkjanllgbaaGreatDoorIntAll
namespace Go.Proofs.YtlejfkjanllgbaaGreatDoor
open Go.RowKit
set_option linter.unusedVariables false
set_option maxRecDepth 20000

/-- An owned row of numbers that are known one by one. -/
abbrev RowF (w : World) (B : Nat) (v : Value) (n : Nat) (f : Nat → Int) : Prop := w.ownsRow B 3 1 v n ((listF n f).map (Value.int .i64))

theorem scOk_listF {sd : Nat} (hs : SideOk sd) (f : Nat → Int) : scOk (sd : Int) (listF (sd * sd) f) = true := by
  unfold scOk
  rw [listF_length]
  rcases hs with rfl | rfl <;> decide
theorem scanL_listF {sd : Nat} (hs : SideOk sd) (f : Nat → Int) : scanL (sd : Int) (listF (sd * sd) f) = listF (sd * sd) (fun k => f (scF sd k)) := by
  unfold scanL
  rw [if_pos (scOk_listF hs f), listF_length, Int.toNat_natCast]
  exact listF_congr fun i hi => listF_get f (scF_lt hs hi)
theorem backL_listF {sd : Nat} (hs : SideOk sd) (f : Nat → Int) : backL (sd : Int) (listF (sd * sd) f) = listF (sd * sd) (fun k => f (bkF sd k)) := by
  unfold backL
  rw [if_pos (scOk_listF hs f), listF_length, Int.toNat_natCast]
  exact listF_congr fun i hi => listF_get f ((bk_facts hs).2 i hi).1
theorem inB_allF {M : Int} {n : Nat} {f : Nat → Int} (h : ∀ i, i < n → -M ≤ f i ∧ f i ≤ M) : inB M (listF n f) = true := inB_iff.2 fun i hi => by
  rw [listF_length] at hi
  rw [listF_get f hi]
  exact h i hi
theorem back4L_listF {f : Nat → Int} (h : ∀ i, i < 16 → -10000000 ≤ f i ∧ f i ≤ 10000000) : back4L (listF 16 f) = listF 16 (fun i => (turnF bakR f i + 32) / 64) := by
  unfold back4L
  rw [if_pos (by rw [listF_length, inB_allF h]; rfl)]
  exact listF_congr fun i hi => by rw [turn_congr (fun j hj => listF_get f hj) i hi]
theorem eightL_listF {f : Nat → Int} (h : ∀ i, i < 64 → -1000 ≤ f i ∧ f i ≤ 1000) : eightL (listF 64 f) = listF 64 (eightF f) := by
  unfold eightL
  rw [if_pos (by rw [listF_length, inB_allF h]; rfl)]
  exact listF_congr fun i hi => crossF_congr (crossF_congr (fun j hj => listF_get f hj)) i hi
theorem back8L_listF {f : Nat → Int} (h : ∀ i, i < 64 → -10000000 ≤ f i ∧ f i ≤ 10000000) : back8L (listF 64 f) = listF 64 (fun i => (eightF f i + 32) / 64) := by
  unfold back8L
  rw [if_pos (by rw [listF_length, inB_allF h]; rfl)]
  refine listF_congr fun i hi => ?_
  show (eightF (fun i => (listF 64 f).getD i 0) i + 32) / 64 = (eightF f i + 32) / 64
  rw [show eightF (fun i => (listF 64 f).getD i 0) i = eightF f i from crossF_congr (crossF_congr (fun j hj => listF_get f hj)) i hi]
theorem implScan4 (p : Option Addr) (c : Nat) (f : Nat → Int) (w : World) (h : Ints w p (listF 16 f)) :
    Calls Tryz.prog 57 #[.int .i64 4, .slice p 16 c] w fun e w' => (∃ v, e = .returned (.tuple #[v, .bool true]) ∧ RowF w' w.heap.size v 16 (fun k => f (scF 4 k))) ∧ Below w.heap.size w w' := by
  have hs : SideOk 4 := by unfold SideOk; omega
  have e1 : scOk (4 : Int) (listF 16 f) = true := scOk_listF hs f
  have e2 : scanL (4 : Int) (listF 16 f) = listF 16 (fun k => f (scF 4 k)) := scanL_listF hs f
  have := implScanned 4 p c (listF 16 f) w h (by rw [listF_length]; unfold maxLen; omega)
  rw [e1, e2, listF_length, listF_length] at this
  exact this
theorem implScan8 (p : Option Addr) (c : Nat) (f : Nat → Int) (w : World) (h : Ints w p (listF 64 f)) :
    Calls Tryz.prog 57 #[.int .i64 8, .slice p 64 c] w fun e w' => (∃ v, e = .returned (.tuple #[v, .bool true]) ∧ RowF w' w.heap.size v 64 (fun k => f (scF 8 k))) ∧ Below w.heap.size w w' := by
  have hs : SideOk 8 := by unfold SideOk; omega
  have e1 : scOk (8 : Int) (listF 64 f) = true := scOk_listF hs f
  have e2 : scanL (8 : Int) (listF 64 f) = listF 64 (fun k => f (scF 8 k)) := scanL_listF hs f
  have := implScanned 8 p c (listF 64 f) w h (by rw [listF_length]; unfold maxLen; omega)
  rw [e1, e2, listF_length, listF_length] at this
  exact this
theorem implUnscan4 (p : Option Addr) (c : Nat) (f : Nat → Int) (w : World) (h : Ints w p (listF 16 f)) :
    Calls Tryz.prog 58 #[.int .i64 4, .slice p 16 c] w fun e w' => (∃ v, e = .returned (.tuple #[v, .bool true]) ∧ RowF w' w.heap.size v 16 (fun k => f (bkF 4 k))) ∧ Below w.heap.size w w' := by
  have hs : SideOk 4 := by unfold SideOk; omega
  have e1 : scOk (4 : Int) (listF 16 f) = true := scOk_listF hs f
  have e2 : backL (4 : Int) (listF 16 f) = listF 16 (fun k => f (bkF 4 k)) := backL_listF hs f
  have := implUnscanned 4 p c (listF 16 f) w h (by rw [listF_length]; unfold maxLen; omega)
  rw [e1, e2, listF_length, listF_length] at this
  exact this
theorem implUnscan8 (p : Option Addr) (c : Nat) (f : Nat → Int) (w : World) (h : Ints w p (listF 64 f)) :
    Calls Tryz.prog 58 #[.int .i64 8, .slice p 64 c] w fun e w' => (∃ v, e = .returned (.tuple #[v, .bool true]) ∧ RowF w' w.heap.size v 64 (fun k => f (bkF 8 k))) ∧ Below w.heap.size w w' := by
  have hs : SideOk 8 := by unfold SideOk; omega
  have e1 : scOk (8 : Int) (listF 64 f) = true := scOk_listF hs f
  have e2 : backL (8 : Int) (listF 64 f) = listF 64 (fun k => f (bkF 8 k)) := backL_listF hs f
  have := implUnscanned 8 p c (listF 64 f) w h (by rw [listF_length]; unfold maxLen; omega)
  rw [e1, e2, listF_length, listF_length] at this
  exact this
theorem implFourF (p : Option Addr) (c : Nat) (f : Nat → Int) (w : World) (hf : ∀ i, i < 16 → -1000 ≤ f i ∧ f i ≤ 1000) (h : Ints w p (listF 16 f)) :
    Calls Tryz.prog 54 #[.slice p 16 c] w fun e w' => (∃ v, e = .returned (v) ∧ RowF w' w.heap.size v 16 (turnF sumR f)) ∧ Below w.heap.size w w' := by
  have := implFour p c (listF 16 f) w h (by rw [listF_length]; unfold maxLen; omega)
  rw [fourL_listF hf, listF_length, listF_length] at this
  exact this
theorem implFourBackF (p : Option Addr) (c : Nat) (f : Nat → Int) (w : World) (hf : ∀ i, i < 16 → -10000000 ≤ f i ∧ f i ≤ 10000000) (h : Ints w p (listF 16 f)) :
    Calls Tryz.prog 60 #[.slice p 16 c] w fun e w' => (∃ v, e = .returned (v) ∧ RowF w' w.heap.size v 16 (fun i => (turnF bakR f i + 32) / 64)) ∧ Below w.heap.size w w' := by
  have := implFourBack p c (listF 16 f) w h (by rw [listF_length]; unfold maxLen; omega)
  rw [back4L_listF hf, listF_length, listF_length] at this
  exact this
theorem implEightF (p : Option Addr) (c : Nat) (f : Nat → Int) (w : World) (hf : ∀ i, i < 64 → -1000 ≤ f i ∧ f i ≤ 1000) (h : Ints w p (listF 64 f)) (hcap : 64 ≤ c) :
    Calls Tryz.prog 62 #[.slice p 64 c] w fun e w' => (∃ v, e = .returned (v) ∧ RowF w' w.heap.size v 64 (eightF f)) ∧ Below w.heap.size w w' := by
  have := implEight p c (listF 64 f) w h (by rw [listF_length]; unfold maxLen; omega) (by rw [listF_length]; exact hcap)
  rw [eightL_listF hf, listF_length, listF_length] at this
  exact this
theorem implEightBackF (p : Option Addr) (c : Nat) (f : Nat → Int) (w : World) (hf : ∀ i, i < 64 → -10000000 ≤ f i ∧ f i ≤ 10000000) (h : Ints w p (listF 64 f)) (hcap : 64 ≤ c) :
    Calls Tryz.prog 65 #[.slice p 64 c] w fun e w' => (∃ v, e = .returned (v) ∧ RowF w' w.heap.size v 64 (fun i => (eightF f i + 32) / 64)) ∧ Below w.heap.size w w' := by
  have := implEightBack p c (listF 64 f) w h (by rw [listF_length]; unfold maxLen; omega) (by rw [listF_length]; exact hcap)
  rw [back8L_listF hf, listF_length, listF_length] at this
  exact this
/-- An owned row is a slice, and its numbers lie there. -/
theorem RowF.form {w : World} {B n : Nat} {v : Value} {f : Nat → Int} (h : RowF w B v n f) (hn : 0 < n) : ∃ g c, v = .slice (some ⟨g, 0, none⟩) n c ∧ B ≤ g ∧ g < w.heap.size ∧ n ≤ c ∧ Ints w (some ⟨g, 0, none⟩) (listF n f) := by
  obtain ⟨g, c, rfl, h1, h2⟩ := World.ownsRow.form h hn
  exact ⟨g, c, rfl, h1, h2, owned_cap h, owned_at (xs := listF n f) (by rw [listF_length]; exact h)⟩
theorem RowF.at' {w : World} {B n g c : Nat} {f : Nat → Int} (h : RowF w B (.slice (some ⟨g, 0, none⟩) n c) n f) : Ints w (some ⟨g, 0, none⟩) (listF n f) := owned_at (xs := listF n f) (by rw [listF_length]; exact h)
end Go.Proofs.YtlejfkjanllgbaaGreatDoor
