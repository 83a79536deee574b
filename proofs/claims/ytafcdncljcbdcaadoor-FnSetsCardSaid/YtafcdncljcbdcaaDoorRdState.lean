/-
  What a reading function holds in memory: the variable of its result, the reader, the variable that it fills.
-/
import Derived.Test.YtafcdncljcbdcaaDoorRdKit
namespace Go.Proofs.YtafcdncljcbdcaaDoor
open Go.RowKit
set_option linter.unusedVariables false
set_option maxRecDepth 20000

/-- The result's variable at g0 holds zs, the reader at gr is in the state st, the variable at gp holds cs. -/
structure PSt (w w' : World) (g0 gr gp : Nat) (s : ByteArray) (t : TypeId) (zs : Array Value) (st : St) (cs : Array Value) : Prop where
  z : Blk w' g0 zs t
  r : Rd w' gr s st
  p : Blk w' gp cs t
  e : ErrT w'
  b : Below w.heap.size w w'
  h0 : w.heap.size ≤ g0
  h1 : g0 < gr
  h2 : gr < gp
  h3 : 0 < w.heap.size
theorem PSt.call {w w' w'' : World} {g0 gr gp : Nat} {s : ByteArray} {t : TypeId} {zs cs : Array Value} {st st' : St} (h : PSt w w' g0 gr gp s t zs st cs) (hr : Rd w'' gr s st') (hg : w'.grownBy w'' (some gr)) : PSt w w'' g0 gr gp s t zs st' cs :=
  have i1 := h.h0; have i2 := h.h1; have i3 := h.h2; have i4 := h.h3
  ⟨h.z.grown hg (by intro e; cases e; omega), hr, h.p.grown hg (by intro e; cases e; omega), h.e.grown hg (by omega), h.b.trans (below_grown hg (by omega) h.b.size), i1, i2, i3, i4⟩
theorem PSt.below {w w' w'' : World} {g0 gr gp : Nat} {s : ByteArray} {t : TypeId} {zs cs : Array Value} {st : St} (h : PSt w w' g0 gr gp s t zs st cs) (hb : Below w'.heap.size w' w'') : PSt w w'' g0 gr gp s t zs st cs :=
  ⟨h.z.below hb h.z.lt, h.r.below hb h.r.lt, h.p.below hb h.p.lt, h.e.below hb (Nat.le_refl _), h.b.trans (hb.mono h.b.size), h.h0, h.h1, h.h2, h.h3⟩
theorem PSt.store {w w' : World} {g0 gr gp : Nat} {s : ByteArray} {t : TypeId} {zs cs : Array Value} {st : St} (h : PSt w w' g0 gr gp s t zs st cs) (j : Nat) (v : Value) (hj : j < cs.size) : PSt w (w'.setCell ⟨gp, j, none⟩ v) g0 gr gp s t zs st (cs.setIfInBounds j v) :=
  have i1 := h.h0; have i2 := h.h1; have i3 := h.h2; have i4 := h.h3
  ⟨h.z.other _ _ (by show g0 ≠ gp; omega), h.r.grown (grown_set w' gp j v) (by omega), h.p.set j v hj, h.e.grown (grown_set w' gp j v) (by omega), h.b.setCell (by show w.heap.size ≤ gp; omega) v, i1, i2, i3, i4⟩
/-- The result's variable is filled. -/
theorem PSt.fill {w w' : World} {g0 gr gp : Nat} {s : ByteArray} {t : TypeId} {z0 z1 z2 z3 v0 v1 v2 v3 : Value} {cs : Array Value} {st : St} (h : PSt w w' g0 gr gp s t #[z0, z1, z2, z3] st cs) :
    Blk ((((w'.setCell ⟨g0, 0, none⟩ v0).setCell ⟨g0, 1, none⟩ v1).setCell ⟨g0, 2, none⟩ v2).setCell ⟨g0, 3, none⟩ v3) g0 #[v0, v1, v2, v3] t ∧ Below w.heap.size w ((((w'.setCell ⟨g0, 0, none⟩ v0).setCell ⟨g0, 1, none⟩ v1).setCell ⟨g0, 2, none⟩ v2).setCell ⟨g0, 3, none⟩ v3) :=
  ⟨(((h.z.set 0 v0 (by simp)).set 1 v1 (by simp)).set 2 v2 (by simp)).set 3 v3 (by simp), (((h.b.setCell h.h0 v0).setCell h.h0 v1).setCell h.h0 v2).setCell h.h0 v3⟩

def flg (s : ByteArray) (st : St) : Bool := (fixR s 1 st).1 == 1
theorem flag_any (s : ByteArray) (g : Nat) (st : St) (w : World) (hr : rowOkB s = true ∨ st = none) (h : Rd w g s st) (hin : StIn s st) :
    Calls Tryd.prog 41 #[.pointer (some ⟨g, 0, none⟩)] w fun e w' => e = .returned (.bool (flg s st)) ∧ Rd w' g s (fixR s 1 st).2 ∧ w.grownBy w' (some g) := by
  have H : Hid (Calls Tryd.prog 36 #[.pointer (some ⟨g, 0, none⟩), .int .i64 1] w fun e w' => e = .returned (.int .i64 (fixR s 1 st).1) ∧ Rd w' g s (fixR s 1 st).2 ∧ w.grownBy w' (some g)) := fixed_any s 1 g st w (by omega) hr h hin
  have HV : Hid (flg s st = ((fixR s 1 st).1 == 1)) := rfl
  clear hr h hin
  go_enter Tryd.func41, Tryd.ntmps41
  go_wp2_with (go_at_call 36; refine H.out.mono ?_; rintro e w1 ⟨rfl, hR, hg⟩)
  go_ret
  exact ⟨by rw [HV.out]; rfl, hR, hg⟩
end Go.Proofs.YtafcdncljcbdcaaDoor
