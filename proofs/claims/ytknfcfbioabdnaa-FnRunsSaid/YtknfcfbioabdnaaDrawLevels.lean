/-
  spec.l11Levels, spec.DrawLevels: drawn levels, each within -5000 .. 5000, in memory of their own.
-/
import Derived.Test.YtknfcfbioabdnaaDrawOwn
import Derived.Test.YtknfcfbioabdnaaAllKit
import Derived.Deep.Cut
namespace Go.Proofs.Ytknfcfbioabdnaa
open Go.RowKit
set_option linter.unusedVariables false
set_option maxRecDepth 20000

set_option maxHeartbeats 400000 in
theorem onceL (g : Nat) (a : Option Addr) (len B : Nat) (n : Int) (w : World) (hc : CodeRow w B a len) (hB : B ≤ g) (hcur : CurAt w g a len) (h1 : 1 ≤ n) (h2 : n ≤ 4294967296) :
    Calls Try.prog 55 #[.pointer (some ⟨g, 0, none⟩), .int .i64 n] w fun e w' => ∃ b : Bool, e = .returned (.bool b) ∧ CurKept w w' g a len := by
  go_enter Try.func55, Try.ntmps55
  go_wp2_with (go_at_call 34; refine (below_any g a len B n _ hc hB hcur h1 h2).mono ?_; rintro e w1 ⟨x, rfl, hx0, hx1, hk⟩)
  go_ret
  exact ⟨_, rfl, hk⟩

def putF (g : Nat → Int) (i : Nat) (x : Int) : Nat → Int := fun j => if j = i then x else g j
theorem put_set (g : Nat → Int) (n i : Nat) (x : Int) : ((listF n g).map (Value.int .i64)).set i (.int .i64 x) = (listF n (putF g i x)).map (Value.int .i64) := by
  unfold listF
  rw [List.map_map, List.map_map]
  have e : Value.int .i64 x = (Value.int .i64 ∘ putF g i x) i := by simp [putF]
  rw [e]
  refine int_range_set n i _ _ (fun j hj => ?_)
  simp [Function.comp, putF, hj]
theorem zero_made (n : Nat) : (madeCells (Value.int .i64 0).cells (n * 1)).toList = (listF n (fun _ => 0)).map (Value.int .i64) := by
  rw [int_made]
  unfold listF
  rw [List.map_map]
  rfl
/-- What lies in memory while levels are drawn into a row of its own. -/
structure Drawn (w wr : World) (g n : Nat) (a : Option Addr) (len : Nat) (f : Nat → Int) : Prop where
  bd : ∀ j, -5000 ≤ f j ∧ f j ≤ 5000
  own : wr.ownsRow w.heap.size 3 1 (.slice (some ⟨w.heap.size, 0, none⟩) n n) n ((listF n f).map (Value.int .i64))
  cur : CurAt wr g a len
  grew : w.grownBy wr (some g)
theorem Drawn.size {w wr : World} {g n : Nat} {a : Option Addr} {len : Nat} {f : Nat → Int} (h : Drawn w wr g n a len f) : w.heap.size < wr.heap.size := by
  have := (h.own.lt w.heap.size rfl).2
  omega
theorem Drawn.step {w wr w1 : World} {g n : Nat} {a : Option Addr} {len : Nat} {f : Nat → Int} (h : Drawn w wr g n a len f) (hg : g < w.heap.size) (hk : CurKept wr w1 g a len) : Drawn w w1 g n a len f :=
  ⟨h.bd, own_cur h.own hg hk, hk.1, h.grew.trans hk.2⟩
theorem Drawn.code {w wr : World} {g n B : Nat} {a : Option Addr} {len : Nat} {f : Nat → Int} (h : Drawn w wr g n a len f) (hc : CodeRow w B a len) (hB : B ≤ g) (hg : g < w.heap.size) : CodeRow wr B a len :=
  hc.below (below_of_grown h.grew (by omega) (fun k hk => by cases hk; exact hB))
theorem Drawn.put {w wr : World} {g n y : Nat} {a : Option Addr} {len : Nat} {f : Nat → Int} {x : Int} (h : Drawn w wr g n a len f) (hg : g < w.heap.size) (hy : y < n) (hx : -5000 ≤ x ∧ x ≤ 5000) :
    (wr.cell? ⟨w.heap.size, y, none⟩ = some (.int .i64 (f y)) ∧ wr.frozen? ⟨w.heap.size, y, none⟩ = false) ∧ Drawn w (wr.setCell ⟨w.heap.size, y, none⟩ (.int .i64 x)) g n a len (putF f y x) := by
  have hc := h.own.cellAt y (by omega)
  have hst := h.own.stored y (.int .i64 x)
  rw [put_set] at hst
  have e : ((listF n f).map (Value.int .i64))[y]? = some (.int .i64 (f y)) := by simp [listF, hy]
  refine ⟨⟨hc.trans e, h.own.frozenAt y⟩, ⟨fun j => ?_, hst.1, h.cur.kept hst.2 (fun e => by have e' := Option.some.inj e; omega), ?_⟩⟩
  · unfold putF
    split
    · exact hx
    · exact h.bd j
  · refine ⟨hst.2.os.trans h.grew.os, hst.2.tape.trans h.grew.tape, hst.2.output.trans h.grew.output, Nat.le_trans h.grew.size hst.2.size, fun k hk hne => ?_⟩
    exact (hst.2.block k (Nat.lt_of_lt_of_le hk h.grew.size) (fun e => by have e' := Option.some.inj e; omega)).trans (h.grew.block k hk hne)
end Go.Proofs.Ytknfcfbioabdnaa
