/-
  No cell of these rows narrows 'for every input' (looked for: loops, veiled, ifaces, maps, wideKeys, modest, calm, conditions, laid).
  DERIVED. THE GIVEN ROWS OF THIS SEAT. 4 by the template 'for every input the law returns true; each argument reads behind the call as it read before'; 0 by the template 'total and deterministic' (their statements: YtadjgejgkhnphaaTotals.lean).
  GIVEN WITH THE SEED: the statements are not yours to turn. If you find one false, say at which input.
  Laid BY PROGRAM, IN A SANDBOX (cutbox-rows.mjs): the forced cells as the released guide's own fill.sh prints them over the translation c0a109848c234eb1… (all of the seat's roots in one cut). By AI agents, Wed Nov 11 2026. No macro, syntax, notation, axiom, sorry.
-/
import Derived.Test.YtadjgejgkhnphaaChecked
import GoSem.Claim
import GoSem.ClaimJoined
import GoSem.ClaimMapViews
import Derived.JoinedTies
import Derived.KernelRfl
namespace Go.Proofs.Ytadjgejgkhnphaa
/- THE CELL 'sum', in the pinned program and in every row, IS THE sha256 OF THE DUMP (.gsa) THAT YtadjgejgkhnphaaProg.lean LOADS. Nothing in Lean hashes anything: it is a label: what it is worth is what the hold of that sum in a sandbox is worth. -/
noncomputable def Try.pinned : Pinned := { name := "ytadjgejgkhnphaa", sum := "c0a109848c234eb1927fb1c339d13df0e111f17cd1255fb542fe3d4350ab38d2", checked := Try.checked }
namespace Rows
def none {H : Type} : Left H := { results := [], args := [] }

/-- 'laws.FnFixed': WHATEVER THE INPUT: true; the input reads as it did. -/
def fnFixedSpec : ChangeSpec := { name := "fnFixed", fn := fun _ => fun
  | [d] => { results := [.lit (.bool true)], args := [d] }
  | _ => none }
def fnFixedRow : OpenClaim := { program := "ytadjgejgkhnphaa", sum := "c0a109848c234eb1927fb1c339d13df0e111f17cd1255fb542fe3d4350ab38d2", func := "loop.example/g00960/laws.FnFixed", spec := "fnFixed", apart := false }
def FnFixedSaid : Prop := fnFixedRow.holds Try.pinned (OpenSpec.ofChange fnFixedSpec)

/-- ITS FALSE NEIGHBOUR: 'it returns false'. Refute it at one input. -/
def fnFixedWrong : ChangeSpec := { name := "fnFixed", fn := fun _ => fun
  | [d] => { results := [.lit (.bool false)], args := [d] }
  | _ => none }
def FnFixedWrongFalsely : Prop := fnFixedRow.holds Try.pinned (OpenSpec.ofChange fnFixedWrong)

/-- 'laws.FnExactRowOk': WHATEVER THE INPUT: true; the input reads as it did. -/
def fnExactRowOkSpec : ChangeSpec := { name := "fnExactRowOk", fn := fun _ => fun
  | [d] => { results := [.lit (.bool true)], args := [d] }
  | _ => none }
def fnExactRowOkRow : OpenClaim := { program := "ytadjgejgkhnphaa", sum := "c0a109848c234eb1927fb1c339d13df0e111f17cd1255fb542fe3d4350ab38d2", func := "loop.example/g00960/laws.FnExactRowOk", spec := "fnExactRowOk", apart := false }
def FnExactRowOkSaid : Prop := fnExactRowOkRow.holds Try.pinned (OpenSpec.ofChange fnExactRowOkSpec)

/-- ITS FALSE NEIGHBOUR: 'it returns false'. Refute it at one input. -/
def fnExactRowOkWrong : ChangeSpec := { name := "fnExactRowOk", fn := fun _ => fun
  | [d] => { results := [.lit (.bool false)], args := [d] }
  | _ => none }
def FnExactRowOkWrongFalsely : Prop := fnExactRowOkRow.holds Try.pinned (OpenSpec.ofChange fnExactRowOkWrong)

/-- 'laws.FnExactFixRow': WHATEVER THE INPUT: true; the input reads as it did. -/
def fnExactFixRowSpec : ChangeSpec := { name := "fnExactFixRow", fn := fun _ => fun
  | [d1, d2] => { results := [.lit (.bool true)], args := [d1, d2] }
  | _ => none }
def fnExactFixRowRow : OpenClaim := { program := "ytadjgejgkhnphaa", sum := "c0a109848c234eb1927fb1c339d13df0e111f17cd1255fb542fe3d4350ab38d2", func := "loop.example/g00960/laws.FnExactFixRow", spec := "fnExactFixRow", apart := false }
def FnExactFixRowSaid : Prop := fnExactFixRowRow.holds Try.pinned (OpenSpec.ofChange fnExactFixRowSpec)

/-- ITS FALSE NEIGHBOUR: 'it returns false'. Refute it at one input. -/
def fnExactFixRowWrong : ChangeSpec := { name := "fnExactFixRow", fn := fun _ => fun
  | [d1, d2] => { results := [.lit (.bool false)], args := [d1, d2] }
  | _ => none }
def FnExactFixRowWrongFalsely : Prop := fnExactFixRowRow.holds Try.pinned (OpenSpec.ofChange fnExactFixRowWrong)

/-- 'laws.FnExactReadFix': WHATEVER THE INPUT: true; the input reads as it did. -/
def fnExactReadFixSpec : ChangeSpec := { name := "fnExactReadFix", fn := fun _ => fun
  | [d1, d2, d3] => { results := [.lit (.bool true)], args := [d1, d2, d3] }
  | _ => none }
def fnExactReadFixRow : OpenClaim := { program := "ytadjgejgkhnphaa", sum := "c0a109848c234eb1927fb1c339d13df0e111f17cd1255fb542fe3d4350ab38d2", func := "loop.example/g00960/laws.FnExactReadFix", spec := "fnExactReadFix", apart := false }
def FnExactReadFixSaid : Prop := fnExactReadFixRow.holds Try.pinned (OpenSpec.ofChange fnExactReadFixSpec)

/-- ITS FALSE NEIGHBOUR: 'it returns false'. Refute it at one input. -/
def fnExactReadFixWrong : ChangeSpec := { name := "fnExactReadFix", fn := fun _ => fun
  | [d1, d2, d3] => { results := [.lit (.bool false)], args := [d1, d2, d3] }
  | _ => none }
def FnExactReadFixWrongFalsely : Prop := fnExactReadFixRow.holds Try.pinned (OpenSpec.ofChange fnExactReadFixWrong)

/- THE SECOND FORM. 'bulk': how many values and letters a reading holds, each counted each time it is reached (what is shared counts as often as it is met; a slice's spare places count too). A statement '..UptoSaid' is the law's where the arguments, and the package variables that the reading takes, are together of bulk at most 1048576: NARROWER than '..Said'. Prove '..Said' where nothing that the law and all that it calls make is longer than what came in: it says more and counts as full. Else prove '..UptoSaid'. A law counts once. -/
mutual
def uptoBulk {H : Type} : DataW H → Nat
  | .lit (.string bytes) => bytes.length + 1
  | .lit _ => 1
  | .nil => 1
  | .ptr d => uptoBulk d + 1
  | .slice elems spare => uptoBulkAll elems + uptoBulkAll spare + 1
  | .agg parts => uptoBulkAll parts + 1
  | .iface _ d => uptoBulk d + 1
  | .map entries => uptoBulkEntries entries + 1
  | .held _ => 1
def uptoBulkAll {H : Type} : List (DataW H) → Nat
  | [] => 0
  | d :: r => uptoBulk d + uptoBulkAll r
def uptoBulkEntries {H : Type} : List (Lit × DataW H) → Nat
  | [] => 0
  | x :: r => uptoBulkEntry x + uptoBulkEntries r
def uptoBulkEntry {H : Type} : Lit × DataW H → Nat
  | (.string bytes, d) => bytes.length + uptoBulk d + 1
  | (_, d) => uptoBulk d + 1
 end
def uptoSmall : (H : Type) → List (DataW H) → Bool := fun _ ds => decide (uptoBulkAll ds ≤ 1048576)
def OpenSpec.upto (s : _root_.Go.ChangeSpec) : _root_.Go.OpenSpec := { _root_.Go.OpenSpec.ofChange s with cond := some uptoSmall }

/-- 'laws.FnFixed', WHERE WHAT IT READS IS OF BULK AT MOST 1048576: true; the input reads as it did. -/
def fnFixedUptoRow : OpenClaim := { program := "ytadjgejgkhnphaa", sum := "c0a109848c234eb1927fb1c339d13df0e111f17cd1255fb542fe3d4350ab38d2", func := "loop.example/g00960/laws.FnFixed", spec := "fnFixed", apart := false, narrowed := true }
def FnFixedUptoSaid : Prop := fnFixedUptoRow.holds Try.pinned (OpenSpec.upto fnFixedSpec)

/-- 'laws.FnExactRowOk', WHERE WHAT IT READS IS OF BULK AT MOST 1048576: true; the input reads as it did. -/
def fnExactRowOkUptoRow : OpenClaim := { program := "ytadjgejgkhnphaa", sum := "c0a109848c234eb1927fb1c339d13df0e111f17cd1255fb542fe3d4350ab38d2", func := "loop.example/g00960/laws.FnExactRowOk", spec := "fnExactRowOk", apart := false, narrowed := true }
def FnExactRowOkUptoSaid : Prop := fnExactRowOkUptoRow.holds Try.pinned (OpenSpec.upto fnExactRowOkSpec)

/-- 'laws.FnExactFixRow', WHERE WHAT IT READS IS OF BULK AT MOST 1048576: true; the input reads as it did. -/
def fnExactFixRowUptoRow : OpenClaim := { program := "ytadjgejgkhnphaa", sum := "c0a109848c234eb1927fb1c339d13df0e111f17cd1255fb542fe3d4350ab38d2", func := "loop.example/g00960/laws.FnExactFixRow", spec := "fnExactFixRow", apart := false, narrowed := true }
def FnExactFixRowUptoSaid : Prop := fnExactFixRowUptoRow.holds Try.pinned (OpenSpec.upto fnExactFixRowSpec)

/-- 'laws.FnExactReadFix', WHERE WHAT IT READS IS OF BULK AT MOST 1048576: true; the input reads as it did. -/
def fnExactReadFixUptoRow : OpenClaim := { program := "ytadjgejgkhnphaa", sum := "c0a109848c234eb1927fb1c339d13df0e111f17cd1255fb542fe3d4350ab38d2", func := "loop.example/g00960/laws.FnExactReadFix", spec := "fnExactReadFix", apart := false, narrowed := true }
def FnExactReadFixUptoSaid : Prop := fnExactReadFixUptoRow.holds Try.pinned (OpenSpec.upto fnExactReadFixSpec)

end Rows
end Go.Proofs.Ytadjgejgkhnphaa
