/-
  No cell of these rows narrows 'for every input' (looked for: loops, veiled, ifaces, maps, wideKeys, modest, calm, conditions, laid).
  DERIVED. THE GIVEN ROWS OF THIS SEAT. 4 by the template 'for every input the law returns true; each argument reads behind the call as it read before'; 0 by the template 'total and deterministic' (their statements: YtabpdiekmljceaaTotals.lean).
  GIVEN WITH THE SEED: the statements are not yours to turn. If you find one false, say at which input.
  Laid BY PROGRAM, IN A SANDBOX (cutbox-rows.mjs): the forced cells as the released guide's own fill.sh prints them over the translation 9649ec6a443a220e… (all of the seat's roots in one cut). By AI agents, Wed Nov 11 2026. No macro, syntax, notation, axiom, sorry.
-/
import Derived.Test.YtabpdiekmljceaaChecked
import GoSem.Claim
import GoSem.ClaimJoined
import GoSem.ClaimMapViews
import Derived.JoinedTies
import Derived.KernelRfl
namespace Go.Proofs.Ytabpdiekmljceaa
/- THE CELL 'sum', in the pinned program and in every row, IS THE sha256 OF THE DUMP (.gsa) THAT YtabpdiekmljceaaProg.lean LOADS. Nothing in Lean hashes anything: it is a label: what it is worth is what the hold of that sum in a sandbox is worth. -/
noncomputable def Try.pinned : Pinned := { name := "ytabpdiekmljceaa", sum := "9649ec6a443a220e491529ce24975f8f45c1063670c854f6d361a38946a4bab7", checked := Try.checked }
namespace Rows
def none {H : Type} : Left H := { results := [], args := [] }

/-- 'laws.FnNoStart': WHATEVER THE INPUT: true; the input reads as it did. -/
def fnNoStartSpec : ChangeSpec := { name := "fnNoStart", fn := fun _ => fun
  | [d] => { results := [.lit (.bool true)], args := [d] }
  | _ => none }
def fnNoStartRow : OpenClaim := { program := "ytabpdiekmljceaa", sum := "9649ec6a443a220e491529ce24975f8f45c1063670c854f6d361a38946a4bab7", func := "loop.example/g00960/laws.FnNoStart", spec := "fnNoStart", unfollowed := true, recurses := true, apart := false }
def FnNoStartSaid : Prop := fnNoStartRow.holds Try.pinned (OpenSpec.ofChange fnNoStartSpec)

/-- ITS FALSE NEIGHBOUR: 'it returns false'. Refute it at one input. -/
def fnNoStartWrong : ChangeSpec := { name := "fnNoStart", fn := fun _ => fun
  | [d] => { results := [.lit (.bool false)], args := [d] }
  | _ => none }
def FnNoStartWrongFalsely : Prop := fnNoStartRow.holds Try.pinned (OpenSpec.ofChange fnNoStartWrong)

/-- 'laws.FnExactEscaped': WHATEVER THE INPUT: true; the input reads as it did. -/
def fnExactEscapedSpec : ChangeSpec := { name := "fnExactEscaped", fn := fun _ => fun
  | [d] => { results := [.lit (.bool true)], args := [d] }
  | _ => none }
def fnExactEscapedRow : OpenClaim := { program := "ytabpdiekmljceaa", sum := "9649ec6a443a220e491529ce24975f8f45c1063670c854f6d361a38946a4bab7", func := "loop.example/g00960/laws.FnExactEscaped", spec := "fnExactEscaped", unfollowed := true, recurses := true, apart := false }
def FnExactEscapedSaid : Prop := fnExactEscapedRow.holds Try.pinned (OpenSpec.ofChange fnExactEscapedSpec)

/-- ITS FALSE NEIGHBOUR: 'it returns false'. Refute it at one input. -/
def fnExactEscapedWrong : ChangeSpec := { name := "fnExactEscaped", fn := fun _ => fun
  | [d] => { results := [.lit (.bool false)], args := [d] }
  | _ => none }
def FnExactEscapedWrongFalsely : Prop := fnExactEscapedRow.holds Try.pinned (OpenSpec.ofChange fnExactEscapedWrong)

/-- 'laws.FnExactUnescaped': WHATEVER THE INPUT: true; the input reads as it did. -/
def fnExactUnescapedSpec : ChangeSpec := { name := "fnExactUnescaped", fn := fun _ => fun
  | [d] => { results := [.lit (.bool true)], args := [d] }
  | _ => none }
def fnExactUnescapedRow : OpenClaim := { program := "ytabpdiekmljceaa", sum := "9649ec6a443a220e491529ce24975f8f45c1063670c854f6d361a38946a4bab7", func := "loop.example/g00960/laws.FnExactUnescaped", spec := "fnExactUnescaped", unfollowed := true, recurses := true, apart := false }
def FnExactUnescapedSaid : Prop := fnExactUnescapedRow.holds Try.pinned (OpenSpec.ofChange fnExactUnescapedSpec)

/-- ITS FALSE NEIGHBOUR: 'it returns false'. Refute it at one input. -/
def fnExactUnescapedWrong : ChangeSpec := { name := "fnExactUnescaped", fn := fun _ => fun
  | [d] => { results := [.lit (.bool false)], args := [d] }
  | _ => none }
def FnExactUnescapedWrongFalsely : Prop := fnExactUnescapedRow.holds Try.pinned (OpenSpec.ofChange fnExactUnescapedWrong)

/-- 'laws.FnExactFramed': WHATEVER THE INPUT: true; the input reads as it did. -/
def fnExactFramedSpec : ChangeSpec := { name := "fnExactFramed", fn := fun _ => fun
  | [d] => { results := [.lit (.bool true)], args := [d] }
  | _ => none }
def fnExactFramedRow : OpenClaim := { program := "ytabpdiekmljceaa", sum := "9649ec6a443a220e491529ce24975f8f45c1063670c854f6d361a38946a4bab7", func := "loop.example/g00960/laws.FnExactFramed", spec := "fnExactFramed", unfollowed := true, recurses := true, apart := false }
def FnExactFramedSaid : Prop := fnExactFramedRow.holds Try.pinned (OpenSpec.ofChange fnExactFramedSpec)

/-- ITS FALSE NEIGHBOUR: 'it returns false'. Refute it at one input. -/
def fnExactFramedWrong : ChangeSpec := { name := "fnExactFramed", fn := fun _ => fun
  | [d] => { results := [.lit (.bool false)], args := [d] }
  | _ => none }
def FnExactFramedWrongFalsely : Prop := fnExactFramedRow.holds Try.pinned (OpenSpec.ofChange fnExactFramedWrong)

/- THE SECOND FORM. 'bulk': how many values and letters a reading holds, each counted each time it is reached (what is shared counts as often as it is met; a slice's spare places count too). A statement '..UptoSaid' is the law's where the arguments, and the package variables that the reading takes, are together of bulk at most 1048576: NARROWER than '..Said'. Prove '..Said' where nothing that the law and all that it calls make is longer than what came in: it says more and counts as full. Else prove '..UptoSaid'. A law counts once. -/
mutual
def uptoBulk {H : Type} : DataW H → Nat
  | .lit (.string bytes) => bytes.length + 1
  | .lit _ => 1
  | .nil => 1
  | .ptr d => uptoBulk d + 1
  | .slice elems spare => uptoBulkAll elems + uptoBulkAll spare + 1
  | .agg parts => uptoBulkAll parts + 1
  | .iface _ d => uptoBulk d + 1
  | .map entries => uptoBulkEntries entries + 1
  | .held _ => 1
def uptoBulkAll {H : Type} : List (DataW H) → Nat
  | [] => 0
  | d :: r => uptoBulk d + uptoBulkAll r
def uptoBulkEntries {H : Type} : List (Lit × DataW H) → Nat
  | [] => 0
  | x :: r => uptoBulkEntry x + uptoBulkEntries r
def uptoBulkEntry {H : Type} : Lit × DataW H → Nat
  | (.string bytes, d) => bytes.length + uptoBulk d + 1
  | (_, d) => uptoBulk d + 1
 end
def uptoSmall : (H : Type) → List (DataW H) → Bool := fun _ ds => decide (uptoBulkAll ds ≤ 1048576)
def OpenSpec.upto (s : _root_.Go.ChangeSpec) : _root_.Go.OpenSpec := { _root_.Go.OpenSpec.ofChange s with cond := some uptoSmall }

/-- 'laws.FnNoStart', WHERE WHAT IT READS IS OF BULK AT MOST 1048576: true; the input reads as it did. -/
def fnNoStartUptoRow : OpenClaim := { program := "ytabpdiekmljceaa", sum := "9649ec6a443a220e491529ce24975f8f45c1063670c854f6d361a38946a4bab7", func := "loop.example/g00960/laws.FnNoStart", spec := "fnNoStart", unfollowed := true, recurses := true, apart := false, narrowed := true }
def FnNoStartUptoSaid : Prop := fnNoStartUptoRow.holds Try.pinned (OpenSpec.upto fnNoStartSpec)

/-- 'laws.FnExactEscaped', WHERE WHAT IT READS IS OF BULK AT MOST 1048576: true; the input reads as it did. -/
def fnExactEscapedUptoRow : OpenClaim := { program := "ytabpdiekmljceaa", sum := "9649ec6a443a220e491529ce24975f8f45c1063670c854f6d361a38946a4bab7", func := "loop.example/g00960/laws.FnExactEscaped", spec := "fnExactEscaped", unfollowed := true, recurses := true, apart := false, narrowed := true }
def FnExactEscapedUptoSaid : Prop := fnExactEscapedUptoRow.holds Try.pinned (OpenSpec.upto fnExactEscapedSpec)

/-- 'laws.FnExactUnescaped', WHERE WHAT IT READS IS OF BULK AT MOST 1048576: true; the input reads as it did. -/
def fnExactUnescapedUptoRow : OpenClaim := { program := "ytabpdiekmljceaa", sum := "9649ec6a443a220e491529ce24975f8f45c1063670c854f6d361a38946a4bab7", func := "loop.example/g00960/laws.FnExactUnescaped", spec := "fnExactUnescaped", unfollowed := true, recurses := true, apart := false, narrowed := true }
def FnExactUnescapedUptoSaid : Prop := fnExactUnescapedUptoRow.holds Try.pinned (OpenSpec.upto fnExactUnescapedSpec)

/-- 'laws.FnExactFramed', WHERE WHAT IT READS IS OF BULK AT MOST 1048576: true; the input reads as it did. -/
def fnExactFramedUptoRow : OpenClaim := { program := "ytabpdiekmljceaa", sum := "9649ec6a443a220e491529ce24975f8f45c1063670c854f6d361a38946a4bab7", func := "loop.example/g00960/laws.FnExactFramed", spec := "fnExactFramed", unfollowed := true, recurses := true, apart := false, narrowed := true }
def FnExactFramedUptoSaid : Prop := fnExactFramedUptoRow.holds Try.pinned (OpenSpec.upto fnExactFramedSpec)

end Rows
end Go.Proofs.Ytabpdiekmljceaa
