/-
  No cell of these rows narrows 'for every input' (looked for: loops, veiled, ifaces, maps, wideKeys, modest, calm, conditions, laid).
  DERIVED. THE GIVEN ROWS OF THIS SEAT. 4 by the template 'for every input the law returns true; each argument reads behind the call as it read before'; 0 by the template 'total and deterministic' (their statements: YtdmdkfjgapnjpaaTotals.lean).
  GIVEN WITH THE SEED: the statements are not yours to turn. If you find one false, say at which input.
  Laid BY PROGRAM, IN A SANDBOX (cutbox-rows.mjs): the forced cells as the released guide's own fill.sh prints them over the translation 17e96583ad5c8e35… (all of the seat's roots in one cut). By AI agents, Wed Nov 11 2026. No macro, syntax, notation, axiom, sorry.
-/
import Derived.Test.YtdmdkfjgapnjpaaChecked
import GoSem.Claim
import GoSem.ClaimJoined
import GoSem.ClaimMapViews
import Derived.JoinedTies
import Derived.KernelRfl
namespace Go.Proofs.Ytdmdkfjgapnjpaa
/- THE CELL 'sum', in the pinned program and in every row, IS THE sha256 OF THE DUMP (.gsa) THAT YtdmdkfjgapnjpaaProg.lean LOADS. Nothing in Lean hashes anything: it is a label: what it is worth is what the hold of that sum in a sandbox is worth. -/
noncomputable def Try.pinned : Pinned := { name := "ytdmdkfjgapnjpaa", sum := "17e96583ad5c8e35110d234dad4768bdf05e6f736d058e1314213379f3ceab9e", checked := Try.checked }
namespace Rows
def none {H : Type} : Left H := { results := [], args := [] }

/-- 'laws.FnFixed': WHATEVER THE INPUT: true; the input reads as it did. -/
def fnFixedSpec : ChangeSpec := { name := "fnFixed", fn := fun _ => fun
  | [d] => { results := [.lit (.bool true)], args := [d] }
  | _ => none }
def fnFixedRow : OpenClaim := { program := "ytdmdkfjgapnjpaa", sum := "17e96583ad5c8e35110d234dad4768bdf05e6f736d058e1314213379f3ceab9e", func := "loop.example/g00960/laws.FnFixed", spec := "fnFixed", apart := false }
def FnFixedSaid : Prop := fnFixedRow.holds Try.pinned (OpenSpec.ofChange fnFixedSpec)

/-- ITS FALSE NEIGHBOUR: 'it returns false'. Refute it at one input. -/
def fnFixedWrong : ChangeSpec := { name := "fnFixed", fn := fun _ => fun
  | [d] => { results := [.lit (.bool false)], args := [d] }
  | _ => none }
def FnFixedWrongFalsely : Prop := fnFixedRow.holds Try.pinned (OpenSpec.ofChange fnFixedWrong)

/-- 'laws.FnExactReadFix': WHATEVER THE INPUT: true; the input reads as it did. -/
def fnExactReadFixSpec : ChangeSpec := { name := "fnExactReadFix", fn := fun _ => fun
  | [d1, d2, d3] => { results := [.lit (.bool true)], args := [d1, d2, d3] }
  | _ => none }
def fnExactReadFixRow : OpenClaim := { program := "ytdmdkfjgapnjpaa", sum := "17e96583ad5c8e35110d234dad4768bdf05e6f736d058e1314213379f3ceab9e", func := "loop.example/g00960/laws.FnExactReadFix", spec := "fnExactReadFix", apart := false }
def FnExactReadFixSaid : Prop := fnExactReadFixRow.holds Try.pinned (OpenSpec.ofChange fnExactReadFixSpec)

/-- ITS FALSE NEIGHBOUR: 'it returns false'. Refute it at one input. -/
def fnExactReadFixWrong : ChangeSpec := { name := "fnExactReadFix", fn := fun _ => fun
  | [d1, d2, d3] => { results := [.lit (.bool false)], args := [d1, d2, d3] }
  | _ => none }
def FnExactReadFixWrongFalsely : Prop := fnExactReadFixRow.holds Try.pinned (OpenSpec.ofChange fnExactReadFixWrong)

/-- 'laws.FnExactFoldSe': WHATEVER THE INPUT: true; the input reads as it did. -/
def fnExactFoldSeSpec : ChangeSpec := { name := "fnExactFoldSe", fn := fun _ => fun
  | [d] => { results := [.lit (.bool true)], args := [d] }
  | _ => none }
def fnExactFoldSeRow : OpenClaim := { program := "ytdmdkfjgapnjpaa", sum := "17e96583ad5c8e35110d234dad4768bdf05e6f736d058e1314213379f3ceab9e", func := "loop.example/g00960/laws.FnExactFoldSe", spec := "fnExactFoldSe", apart := false }
def FnExactFoldSeSaid : Prop := fnExactFoldSeRow.holds Try.pinned (OpenSpec.ofChange fnExactFoldSeSpec)

/-- ITS FALSE NEIGHBOUR: 'it returns false'. Refute it at one input. -/
def fnExactFoldSeWrong : ChangeSpec := { name := "fnExactFoldSe", fn := fun _ => fun
  | [d] => { results := [.lit (.bool false)], args := [d] }
  | _ => none }
def FnExactFoldSeWrongFalsely : Prop := fnExactFoldSeRow.holds Try.pinned (OpenSpec.ofChange fnExactFoldSeWrong)

/-- 'laws.FnExactOpenSe': WHATEVER THE INPUT: true; the input reads as it did. -/
def fnExactOpenSeSpec : ChangeSpec := { name := "fnExactOpenSe", fn := fun _ => fun
  | [d] => { results := [.lit (.bool true)], args := [d] }
  | _ => none }
def fnExactOpenSeRow : OpenClaim := { program := "ytdmdkfjgapnjpaa", sum := "17e96583ad5c8e35110d234dad4768bdf05e6f736d058e1314213379f3ceab9e", func := "loop.example/g00960/laws.FnExactOpenSe", spec := "fnExactOpenSe", apart := false }
def FnExactOpenSeSaid : Prop := fnExactOpenSeRow.holds Try.pinned (OpenSpec.ofChange fnExactOpenSeSpec)

/-- ITS FALSE NEIGHBOUR: 'it returns false'. Refute it at one input. -/
def fnExactOpenSeWrong : ChangeSpec := { name := "fnExactOpenSe", fn := fun _ => fun
  | [d] => { results := [.lit (.bool false)], args := [d] }
  | _ => none }
def FnExactOpenSeWrongFalsely : Prop := fnExactOpenSeRow.holds Try.pinned (OpenSpec.ofChange fnExactOpenSeWrong)

/- THE SECOND FORM. 'bulk': how many values and letters a reading holds, each counted each time it is reached (what is shared counts as often as it is met; a slice's spare places count too). A statement '..UptoSaid' is the law's where the arguments, and the package variables that the reading takes, are together of bulk at most 1048576: NARROWER than '..Said'. Prove '..Said' where nothing that the law and all that it calls make is longer than what came in: it says more and counts as full. Else prove '..UptoSaid'. A law counts once. -/
mutual
def uptoBulk {H : Type} : DataW H → Nat
  | .lit (.string bytes) => bytes.length + 1
  | .lit _ => 1
  | .nil => 1
  | .ptr d => uptoBulk d + 1
  | .slice elems spare => uptoBulkAll elems + uptoBulkAll spare + 1
  | .agg parts => uptoBulkAll parts + 1
  | .iface _ d => uptoBulk d + 1
  | .map entries => uptoBulkEntries entries + 1
  | .held _ => 1
def uptoBulkAll {H : Type} : List (DataW H) → Nat
  | [] => 0
  | d :: r => uptoBulk d + uptoBulkAll r
def uptoBulkEntries {H : Type} : List (Lit × DataW H) → Nat
  | [] => 0
  | x :: r => uptoBulkEntry x + uptoBulkEntries r
def uptoBulkEntry {H : Type} : Lit × DataW H → Nat
  | (.string bytes, d) => bytes.length + uptoBulk d + 1
  | (_, d) => uptoBulk d + 1
 end
def uptoSmall : (H : Type) → List (DataW H) → Bool := fun _ ds => decide (uptoBulkAll ds ≤ 1048576)
def OpenSpec.upto (s : _root_.Go.ChangeSpec) : _root_.Go.OpenSpec := { _root_.Go.OpenSpec.ofChange s with cond := some uptoSmall }

/-- 'laws.FnFixed', WHERE WHAT IT READS IS OF BULK AT MOST 1048576: true; the input reads as it did. -/
def fnFixedUptoRow : OpenClaim := { program := "ytdmdkfjgapnjpaa", sum := "17e96583ad5c8e35110d234dad4768bdf05e6f736d058e1314213379f3ceab9e", func := "loop.example/g00960/laws.FnFixed", spec := "fnFixed", apart := false, narrowed := true }
def FnFixedUptoSaid : Prop := fnFixedUptoRow.holds Try.pinned (OpenSpec.upto fnFixedSpec)

/-- 'laws.FnExactReadFix', WHERE WHAT IT READS IS OF BULK AT MOST 1048576: true; the input reads as it did. -/
def fnExactReadFixUptoRow : OpenClaim := { program := "ytdmdkfjgapnjpaa", sum := "17e96583ad5c8e35110d234dad4768bdf05e6f736d058e1314213379f3ceab9e", func := "loop.example/g00960/laws.FnExactReadFix", spec := "fnExactReadFix", apart := false, narrowed := true }
def FnExactReadFixUptoSaid : Prop := fnExactReadFixUptoRow.holds Try.pinned (OpenSpec.upto fnExactReadFixSpec)

/-- 'laws.FnExactFoldSe', WHERE WHAT IT READS IS OF BULK AT MOST 1048576: true; the input reads as it did. -/
def fnExactFoldSeUptoRow : OpenClaim := { program := "ytdmdkfjgapnjpaa", sum := "17e96583ad5c8e35110d234dad4768bdf05e6f736d058e1314213379f3ceab9e", func := "loop.example/g00960/laws.FnExactFoldSe", spec := "fnExactFoldSe", apart := false, narrowed := true }
def FnExactFoldSeUptoSaid : Prop := fnExactFoldSeUptoRow.holds Try.pinned (OpenSpec.upto fnExactFoldSeSpec)

/-- 'laws.FnExactOpenSe', WHERE WHAT IT READS IS OF BULK AT MOST 1048576: true; the input reads as it did. -/
def fnExactOpenSeUptoRow : OpenClaim := { program := "ytdmdkfjgapnjpaa", sum := "17e96583ad5c8e35110d234dad4768bdf05e6f736d058e1314213379f3ceab9e", func := "loop.example/g00960/laws.FnExactOpenSe", spec := "fnExactOpenSe", apart := false, narrowed := true }
def FnExactOpenSeUptoSaid : Prop := fnExactOpenSeUptoRow.holds Try.pinned (OpenSpec.upto fnExactOpenSeSpec)

end Rows
end Go.Proofs.Ytdmdkfjgapnjpaa
