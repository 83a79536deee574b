/-
  No cell of these rows narrows 'for every input' (looked for: loops, veiled, ifaces, maps, wideKeys, modest, calm, conditions, laid).
  DERIVED. THE GIVEN ROWS OF THIS SEAT. 4 by the template 'for every input the law returns true; each argument reads behind the call as it read before'; 0 by the template 'total and deterministic' (their statements: YtnlbigjfnjcldaaGreatTotals.lean).
  GIVEN WITH THE SEED: the statements are not yours to turn. If you find one false, say at which input.
  Laid BY PROGRAM, IN A SANDBOX (cutbox-rows.mjs): the forced cells as the released guide's own fill.sh prints them over the translation 43b542d7546e1f60… (all of the seat's roots in one cut). By AI agents, Wed Nov 11 2026. No macro, syntax, notation, axiom, sorry.
-/
import Derived.Test.YtnlbigjfnjcldaaGreatChecked
import GoSem.Claim
import GoSem.ClaimJoined
import GoSem.ClaimMapViews
import Derived.JoinedTies
import Derived.KernelRfl
namespace Go.Proofs.YtnlbigjfnjcldaaGreat
/- THE CELL 'sum', in the pinned program and in every row, IS THE sha256 OF THE DUMP (.gsa) THAT YtnlbigjfnjcldaaGreatProg.lean LOADS. Nothing in Lean hashes anything: it is a label: what it is worth is what the hold of that sum in a sandbox is worth. -/
noncomputable def Tryz.pinned : Pinned := { name := "ytnlbigjfnjcldaagreat", sum := "43b542d7546e1f607082f11eab786a288c1f84b97fc5287d20893d6a0d608e80", checked := Tryz.checked }
namespace Rows
def none {H : Type} : Left H := { results := [], args := [] }

/-- 'laws.FnSquares': WHATEVER THE INPUT: true; the input reads as it did. -/
def fnSquaresSpec : ChangeSpec := { name := "fnSquares", fn := fun _ => fun
  | [d] => { results := [.lit (.bool true)], args := [d] }
  | _ => none }
def fnSquaresRow : OpenClaim := { program := "ytnlbigjfnjcldaagreat", sum := "43b542d7546e1f607082f11eab786a288c1f84b97fc5287d20893d6a0d608e80", func := "loop.example/g00960/laws.FnSquares", spec := "fnSquares", inPlace := ["internal/abi.NoEscape", "internal/bytealg.MakeNoZero", "internal/bytealg.IndexByteString"], unfollowed := true, recurses := true, apart := false }
def FnSquaresSaid : Prop := fnSquaresRow.holds Tryz.pinned (OpenSpec.ofChange fnSquaresSpec)

/-- ITS FALSE NEIGHBOUR: 'it returns false'. Refute it at one input. -/
def fnSquaresWrong : ChangeSpec := { name := "fnSquares", fn := fun _ => fun
  | [d] => { results := [.lit (.bool false)], args := [d] }
  | _ => none }
def FnSquaresWrongFalsely : Prop := fnSquaresRow.holds Tryz.pinned (OpenSpec.ofChange fnSquaresWrong)

/-- 'laws.FnExactSquareRow': WHATEVER THE INPUT: true; the input reads as it did. -/
def fnExactSquareRowSpec : ChangeSpec := { name := "fnExactSquareRow", fn := fun _ => fun
  | [d1, d2] => { results := [.lit (.bool true)], args := [d1, d2] }
  | _ => none }
def fnExactSquareRowRow : OpenClaim := { program := "ytnlbigjfnjcldaagreat", sum := "43b542d7546e1f607082f11eab786a288c1f84b97fc5287d20893d6a0d608e80", func := "loop.example/g00960/laws.FnExactSquareRow", spec := "fnExactSquareRow", inPlace := ["internal/abi.NoEscape", "internal/bytealg.MakeNoZero"], unfollowed := true, recurses := true, apart := false }
def FnExactSquareRowSaid : Prop := fnExactSquareRowRow.holds Tryz.pinned (OpenSpec.ofChange fnExactSquareRowSpec)

/-- ITS FALSE NEIGHBOUR: 'it returns false'. Refute it at one input. -/
def fnExactSquareRowWrong : ChangeSpec := { name := "fnExactSquareRow", fn := fun _ => fun
  | [d1, d2] => { results := [.lit (.bool false)], args := [d1, d2] }
  | _ => none }
def FnExactSquareRowWrongFalsely : Prop := fnExactSquareRowRow.holds Tryz.pinned (OpenSpec.ofChange fnExactSquareRowWrong)

/-- 'laws.FnExactReadSquare': WHATEVER THE INPUT: true; the input reads as it did. -/
def fnExactReadSquareSpec : ChangeSpec := { name := "fnExactReadSquare", fn := fun _ => fun
  | [d1, d2, d3] => { results := [.lit (.bool true)], args := [d1, d2, d3] }
  | _ => none }
def fnExactReadSquareRow : OpenClaim := { program := "ytnlbigjfnjcldaagreat", sum := "43b542d7546e1f607082f11eab786a288c1f84b97fc5287d20893d6a0d608e80", func := "loop.example/g00960/laws.FnExactReadSquare", spec := "fnExactReadSquare", inPlace := ["internal/bytealg.IndexByteString"], unfollowed := true, recurses := true, apart := false }
def FnExactReadSquareSaid : Prop := fnExactReadSquareRow.holds Tryz.pinned (OpenSpec.ofChange fnExactReadSquareSpec)

/-- ITS FALSE NEIGHBOUR: 'it returns false'. Refute it at one input. -/
def fnExactReadSquareWrong : ChangeSpec := { name := "fnExactReadSquare", fn := fun _ => fun
  | [d1, d2, d3] => { results := [.lit (.bool false)], args := [d1, d2, d3] }
  | _ => none }
def FnExactReadSquareWrongFalsely : Prop := fnExactReadSquareRow.holds Tryz.pinned (OpenSpec.ofChange fnExactReadSquareWrong)

/-- 'laws.FnExactSquareSize': WHATEVER THE INPUT: true; the input reads as it did. -/
def fnExactSquareSizeSpec : ChangeSpec := { name := "fnExactSquareSize", fn := fun _ => fun
  | [d1, d2] => { results := [.lit (.bool true)], args := [d1, d2] }
  | _ => none }
def fnExactSquareSizeRow : OpenClaim := { program := "ytnlbigjfnjcldaagreat", sum := "43b542d7546e1f607082f11eab786a288c1f84b97fc5287d20893d6a0d608e80", func := "loop.example/g00960/laws.FnExactSquareSize", spec := "fnExactSquareSize", inPlace := ["internal/abi.NoEscape", "internal/bytealg.MakeNoZero"], unfollowed := true, recurses := true, apart := false }
def FnExactSquareSizeSaid : Prop := fnExactSquareSizeRow.holds Tryz.pinned (OpenSpec.ofChange fnExactSquareSizeSpec)

/-- ITS FALSE NEIGHBOUR: 'it returns false'. Refute it at one input. -/
def fnExactSquareSizeWrong : ChangeSpec := { name := "fnExactSquareSize", fn := fun _ => fun
  | [d1, d2] => { results := [.lit (.bool false)], args := [d1, d2] }
  | _ => none }
def FnExactSquareSizeWrongFalsely : Prop := fnExactSquareSizeRow.holds Tryz.pinned (OpenSpec.ofChange fnExactSquareSizeWrong)

/- THE SECOND FORM. 'bulk': how many values and letters a reading holds, each counted each time it is reached (what is shared counts as often as it is met; a slice's spare places count too). A statement '..UptoSaid' is the law's where the arguments, and the package variables that the reading takes, are together of bulk at most 1048576: NARROWER than '..Said'. Prove '..Said' where nothing that the law and all that it calls make is longer than what came in: it says more and counts as full. Else prove '..UptoSaid'. A law counts once. -/
mutual
def uptoBulk {H : Type} : DataW H → Nat
  | .lit (.string bytes) => bytes.length + 1
  | .lit _ => 1
  | .nil => 1
  | .ptr d => uptoBulk d + 1
  | .slice elems spare => uptoBulkAll elems + uptoBulkAll spare + 1
  | .agg parts => uptoBulkAll parts + 1
  | .iface _ d => uptoBulk d + 1
  | .map entries => uptoBulkEntries entries + 1
  | .held _ => 1
def uptoBulkAll {H : Type} : List (DataW H) → Nat
  | [] => 0
  | d :: r => uptoBulk d + uptoBulkAll r
def uptoBulkEntries {H : Type} : List (Lit × DataW H) → Nat
  | [] => 0
  | x :: r => uptoBulkEntry x + uptoBulkEntries r
def uptoBulkEntry {H : Type} : Lit × DataW H → Nat
  | (.string bytes, d) => bytes.length + uptoBulk d + 1
  | (_, d) => uptoBulk d + 1
 end
def uptoSmall : (H : Type) → List (DataW H) → Bool := fun _ ds => decide (uptoBulkAll ds ≤ 1048576)
def OpenSpec.upto (s : _root_.Go.ChangeSpec) : _root_.Go.OpenSpec := { _root_.Go.OpenSpec.ofChange s with cond := some uptoSmall }

/-- 'laws.FnSquares', WHERE WHAT IT READS IS OF BULK AT MOST 1048576: true; the input reads as it did. -/
def fnSquaresUptoRow : OpenClaim := { program := "ytnlbigjfnjcldaagreat", sum := "43b542d7546e1f607082f11eab786a288c1f84b97fc5287d20893d6a0d608e80", func := "loop.example/g00960/laws.FnSquares", spec := "fnSquares", inPlace := ["internal/abi.NoEscape", "internal/bytealg.MakeNoZero", "internal/bytealg.IndexByteString"], unfollowed := true, recurses := true, apart := false, narrowed := true }
def FnSquaresUptoSaid : Prop := fnSquaresUptoRow.holds Tryz.pinned (OpenSpec.upto fnSquaresSpec)

/-- 'laws.FnExactSquareRow', WHERE WHAT IT READS IS OF BULK AT MOST 1048576: true; the input reads as it did. -/
def fnExactSquareRowUptoRow : OpenClaim := { program := "ytnlbigjfnjcldaagreat", sum := "43b542d7546e1f607082f11eab786a288c1f84b97fc5287d20893d6a0d608e80", func := "loop.example/g00960/laws.FnExactSquareRow", spec := "fnExactSquareRow", inPlace := ["internal/abi.NoEscape", "internal/bytealg.MakeNoZero"], unfollowed := true, recurses := true, apart := false, narrowed := true }
def FnExactSquareRowUptoSaid : Prop := fnExactSquareRowUptoRow.holds Tryz.pinned (OpenSpec.upto fnExactSquareRowSpec)

/-- 'laws.FnExactReadSquare', WHERE WHAT IT READS IS OF BULK AT MOST 1048576: true; the input reads as it did. -/
def fnExactReadSquareUptoRow : OpenClaim := { program := "ytnlbigjfnjcldaagreat", sum := "43b542d7546e1f607082f11eab786a288c1f84b97fc5287d20893d6a0d608e80", func := "loop.example/g00960/laws.FnExactReadSquare", spec := "fnExactReadSquare", inPlace := ["internal/bytealg.IndexByteString"], unfollowed := true, recurses := true, apart := false, narrowed := true }
def FnExactReadSquareUptoSaid : Prop := fnExactReadSquareUptoRow.holds Tryz.pinned (OpenSpec.upto fnExactReadSquareSpec)

/-- 'laws.FnExactSquareSize', WHERE WHAT IT READS IS OF BULK AT MOST 1048576: true; the input reads as it did. -/
def fnExactSquareSizeUptoRow : OpenClaim := { program := "ytnlbigjfnjcldaagreat", sum := "43b542d7546e1f607082f11eab786a288c1f84b97fc5287d20893d6a0d608e80", func := "loop.example/g00960/laws.FnExactSquareSize", spec := "fnExactSquareSize", inPlace := ["internal/abi.NoEscape", "internal/bytealg.MakeNoZero"], unfollowed := true, recurses := true, apart := false, narrowed := true }
def FnExactSquareSizeUptoSaid : Prop := fnExactSquareSizeUptoRow.holds Tryz.pinned (OpenSpec.upto fnExactSquareSizeSpec)

end Rows
end Go.Proofs.YtnlbigjfnjcldaaGreat
