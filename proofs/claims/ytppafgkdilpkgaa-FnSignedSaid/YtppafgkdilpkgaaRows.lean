/-
  No cell of these rows narrows 'for every input' (looked for: loops, veiled, ifaces, maps, wideKeys, modest, calm, conditions, laid).
  DERIVED. THE GIVEN ROWS OF THIS SEAT. 10 by the template 'for every input the law returns true; each argument reads behind the call as it read before'; 0 by the template 'total and deterministic' (their statements: YtppafgkdilpkgaaTotals.lean).
  GIVEN WITH THE SEED: the statements are not yours to turn. If you find one false, say at which input.
  Laid BY PROGRAM, IN A SANDBOX (cutbox-rows.mjs): the forced cells as the released guide's own fill.sh prints them over the translation c621e5b5578e12df… (all of the seat's roots in one cut). By AI agents, Wed Nov 11 2026. No macro, syntax, notation, axiom, sorry.
-/
import Derived.Test.YtppafgkdilpkgaaChecked
import GoSem.Claim
import GoSem.ClaimJoined
import GoSem.ClaimMapViews
import Derived.JoinedTies
import Derived.KernelRfl
namespace Go.Proofs.Ytppafgkdilpkgaa
/- THE CELL 'sum', in the pinned program and in every row, IS THE sha256 OF THE DUMP (.gsa) THAT YtppafgkdilpkgaaProg.lean LOADS. Nothing in Lean hashes anything: it is a label: what it is worth is what the hold of that sum in a sandbox is worth. -/
noncomputable def Try.pinned : Pinned := { name := "ytppafgkdilpkgaa", sum := "c621e5b5578e12df2ae292aec575ceee6aabb12f8983c9e85ca7d720e4983e2c", checked := Try.checked }
namespace Rows
def none {H : Type} : Left H := { results := [], args := [] }

/-- 'laws.FnCounts': WHATEVER THE INPUT: true; the input reads as it did. -/
def fnCountsSpec : ChangeSpec := { name := "fnCounts", fn := fun _ => fun
  | [d] => { results := [.lit (.bool true)], args := [d] }
  | _ => none }
def fnCountsRow : OpenClaim := { program := "ytppafgkdilpkgaa", sum := "c621e5b5578e12df2ae292aec575ceee6aabb12f8983c9e85ca7d720e4983e2c", func := "loop.example/g00960/laws.FnCounts", spec := "fnCounts", inPlace := ["internal/abi.NoEscape", "internal/bytealg.MakeNoZero", "internal/bytealg.IndexByteString"], apart := false }
def FnCountsSaid : Prop := fnCountsRow.holds Try.pinned (OpenSpec.ofChange fnCountsSpec)

/-- ITS FALSE NEIGHBOUR: 'it returns false'. Refute it at one input. -/
def fnCountsWrong : ChangeSpec := { name := "fnCounts", fn := fun _ => fun
  | [d] => { results := [.lit (.bool false)], args := [d] }
  | _ => none }
def FnCountsWrongFalsely : Prop := fnCountsRow.holds Try.pinned (OpenSpec.ofChange fnCountsWrong)

/-- 'laws.FnSigned': WHATEVER THE INPUT: true; the input reads as it did. -/
def fnSignedSpec : ChangeSpec := { name := "fnSigned", fn := fun _ => fun
  | [d] => { results := [.lit (.bool true)], args := [d] }
  | _ => none }
def fnSignedRow : OpenClaim := { program := "ytppafgkdilpkgaa", sum := "c621e5b5578e12df2ae292aec575ceee6aabb12f8983c9e85ca7d720e4983e2c", func := "loop.example/g00960/laws.FnSigned", spec := "fnSigned", inPlace := ["internal/abi.NoEscape", "internal/bytealg.MakeNoZero", "internal/bytealg.IndexByteString"], apart := false }
def FnSignedSaid : Prop := fnSignedRow.holds Try.pinned (OpenSpec.ofChange fnSignedSpec)

/-- ITS FALSE NEIGHBOUR: 'it returns false'. Refute it at one input. -/
def fnSignedWrong : ChangeSpec := { name := "fnSigned", fn := fun _ => fun
  | [d] => { results := [.lit (.bool false)], args := [d] }
  | _ => none }
def FnSignedWrongFalsely : Prop := fnSignedRow.holds Try.pinned (OpenSpec.ofChange fnSignedWrong)

/-- 'laws.FnExactUeRow': WHATEVER THE INPUT: true; the input reads as it did. -/
def fnExactUeRowSpec : ChangeSpec := { name := "fnExactUeRow", fn := fun _ => fun
  | [d] => { results := [.lit (.bool true)], args := [d] }
  | _ => none }
def fnExactUeRowRow : OpenClaim := { program := "ytppafgkdilpkgaa", sum := "c621e5b5578e12df2ae292aec575ceee6aabb12f8983c9e85ca7d720e4983e2c", func := "loop.example/g00960/laws.FnExactUeRow", spec := "fnExactUeRow", inPlace := ["internal/abi.NoEscape", "internal/bytealg.MakeNoZero"], apart := false }
def FnExactUeRowSaid : Prop := fnExactUeRowRow.holds Try.pinned (OpenSpec.ofChange fnExactUeRowSpec)

/-- ITS FALSE NEIGHBOUR: 'it returns false'. Refute it at one input. -/
def fnExactUeRowWrong : ChangeSpec := { name := "fnExactUeRow", fn := fun _ => fun
  | [d] => { results := [.lit (.bool false)], args := [d] }
  | _ => none }
def FnExactUeRowWrongFalsely : Prop := fnExactUeRowRow.holds Try.pinned (OpenSpec.ofChange fnExactUeRowWrong)

/-- 'laws.FnExactReadUe': WHATEVER THE INPUT: true; the input reads as it did. -/
def fnExactReadUeSpec : ChangeSpec := { name := "fnExactReadUe", fn := fun _ => fun
  | [d1, d2] => { results := [.lit (.bool true)], args := [d1, d2] }
  | _ => none }
def fnExactReadUeRow : OpenClaim := { program := "ytppafgkdilpkgaa", sum := "c621e5b5578e12df2ae292aec575ceee6aabb12f8983c9e85ca7d720e4983e2c", func := "loop.example/g00960/laws.FnExactReadUe", spec := "fnExactReadUe", inPlace := ["internal/bytealg.IndexByteString"], apart := false }
def FnExactReadUeSaid : Prop := fnExactReadUeRow.holds Try.pinned (OpenSpec.ofChange fnExactReadUeSpec)

/-- ITS FALSE NEIGHBOUR: 'it returns false'. Refute it at one input. -/
def fnExactReadUeWrong : ChangeSpec := { name := "fnExactReadUe", fn := fun _ => fun
  | [d1, d2] => { results := [.lit (.bool false)], args := [d1, d2] }
  | _ => none }
def FnExactReadUeWrongFalsely : Prop := fnExactReadUeRow.holds Try.pinned (OpenSpec.ofChange fnExactReadUeWrong)

/-- 'laws.FnExactFoldSe': WHATEVER THE INPUT: true; the input reads as it did. -/
def fnExactFoldSeSpec : ChangeSpec := { name := "fnExactFoldSe", fn := fun _ => fun
  | [d] => { results := [.lit (.bool true)], args := [d] }
  | _ => none }
def fnExactFoldSeRow : OpenClaim := { program := "ytppafgkdilpkgaa", sum := "c621e5b5578e12df2ae292aec575ceee6aabb12f8983c9e85ca7d720e4983e2c", func := "loop.example/g00960/laws.FnExactFoldSe", spec := "fnExactFoldSe", apart := false }
def FnExactFoldSeSaid : Prop := fnExactFoldSeRow.holds Try.pinned (OpenSpec.ofChange fnExactFoldSeSpec)

/-- ITS FALSE NEIGHBOUR: 'it returns false'. Refute it at one input. -/
def fnExactFoldSeWrong : ChangeSpec := { name := "fnExactFoldSe", fn := fun _ => fun
  | [d] => { results := [.lit (.bool false)], args := [d] }
  | _ => none }
def FnExactFoldSeWrongFalsely : Prop := fnExactFoldSeRow.holds Try.pinned (OpenSpec.ofChange fnExactFoldSeWrong)

/-- 'laws.FnExactOpenSe': WHATEVER THE INPUT: true; the input reads as it did. -/
def fnExactOpenSeSpec : ChangeSpec := { name := "fnExactOpenSe", fn := fun _ => fun
  | [d] => { results := [.lit (.bool true)], args := [d] }
  | _ => none }
def fnExactOpenSeRow : OpenClaim := { program := "ytppafgkdilpkgaa", sum := "c621e5b5578e12df2ae292aec575ceee6aabb12f8983c9e85ca7d720e4983e2c", func := "loop.example/g00960/laws.FnExactOpenSe", spec := "fnExactOpenSe", apart := false }
def FnExactOpenSeSaid : Prop := fnExactOpenSeRow.holds Try.pinned (OpenSpec.ofChange fnExactOpenSeSpec)

/-- ITS FALSE NEIGHBOUR: 'it returns false'. Refute it at one input. -/
def fnExactOpenSeWrong : ChangeSpec := { name := "fnExactOpenSe", fn := fun _ => fun
  | [d] => { results := [.lit (.bool false)], args := [d] }
  | _ => none }
def FnExactOpenSeWrongFalsely : Prop := fnExactOpenSeRow.holds Try.pinned (OpenSpec.ofChange fnExactOpenSeWrong)

/-- 'laws.FnExactSeRow': WHATEVER THE INPUT: true; the input reads as it did. -/
def fnExactSeRowSpec : ChangeSpec := { name := "fnExactSeRow", fn := fun _ => fun
  | [d] => { results := [.lit (.bool true)], args := [d] }
  | _ => none }
def fnExactSeRowRow : OpenClaim := { program := "ytppafgkdilpkgaa", sum := "c621e5b5578e12df2ae292aec575ceee6aabb12f8983c9e85ca7d720e4983e2c", func := "loop.example/g00960/laws.FnExactSeRow", spec := "fnExactSeRow", inPlace := ["internal/abi.NoEscape", "internal/bytealg.MakeNoZero"], apart := false }
def FnExactSeRowSaid : Prop := fnExactSeRowRow.holds Try.pinned (OpenSpec.ofChange fnExactSeRowSpec)

/-- ITS FALSE NEIGHBOUR: 'it returns false'. Refute it at one input. -/
def fnExactSeRowWrong : ChangeSpec := { name := "fnExactSeRow", fn := fun _ => fun
  | [d] => { results := [.lit (.bool false)], args := [d] }
  | _ => none }
def FnExactSeRowWrongFalsely : Prop := fnExactSeRowRow.holds Try.pinned (OpenSpec.ofChange fnExactSeRowWrong)

/-- 'laws.FnExactReadSe': WHATEVER THE INPUT: true; the input reads as it did. -/
def fnExactReadSeSpec : ChangeSpec := { name := "fnExactReadSe", fn := fun _ => fun
  | [d1, d2] => { results := [.lit (.bool true)], args := [d1, d2] }
  | _ => none }
def fnExactReadSeRow : OpenClaim := { program := "ytppafgkdilpkgaa", sum := "c621e5b5578e12df2ae292aec575ceee6aabb12f8983c9e85ca7d720e4983e2c", func := "loop.example/g00960/laws.FnExactReadSe", spec := "fnExactReadSe", inPlace := ["internal/bytealg.IndexByteString"], apart := false }
def FnExactReadSeSaid : Prop := fnExactReadSeRow.holds Try.pinned (OpenSpec.ofChange fnExactReadSeSpec)

/-- ITS FALSE NEIGHBOUR: 'it returns false'. Refute it at one input. -/
def fnExactReadSeWrong : ChangeSpec := { name := "fnExactReadSe", fn := fun _ => fun
  | [d1, d2] => { results := [.lit (.bool false)], args := [d1, d2] }
  | _ => none }
def FnExactReadSeWrongFalsely : Prop := fnExactReadSeRow.holds Try.pinned (OpenSpec.ofChange fnExactReadSeWrong)

/-- 'laws.FnExactUeSize': WHATEVER THE INPUT: true; the input reads as it did. -/
def fnExactUeSizeSpec : ChangeSpec := { name := "fnExactUeSize", fn := fun _ => fun
  | [d] => { results := [.lit (.bool true)], args := [d] }
  | _ => none }
def fnExactUeSizeRow : OpenClaim := { program := "ytppafgkdilpkgaa", sum := "c621e5b5578e12df2ae292aec575ceee6aabb12f8983c9e85ca7d720e4983e2c", func := "loop.example/g00960/laws.FnExactUeSize", spec := "fnExactUeSize", apart := false }
def FnExactUeSizeSaid : Prop := fnExactUeSizeRow.holds Try.pinned (OpenSpec.ofChange fnExactUeSizeSpec)

/-- ITS FALSE NEIGHBOUR: 'it returns false'. Refute it at one input. -/
def fnExactUeSizeWrong : ChangeSpec := { name := "fnExactUeSize", fn := fun _ => fun
  | [d] => { results := [.lit (.bool false)], args := [d] }
  | _ => none }
def FnExactUeSizeWrongFalsely : Prop := fnExactUeSizeRow.holds Try.pinned (OpenSpec.ofChange fnExactUeSizeWrong)

/-- 'laws.FnExactSeSize': WHATEVER THE INPUT: true; the input reads as it did. -/
def fnExactSeSizeSpec : ChangeSpec := { name := "fnExactSeSize", fn := fun _ => fun
  | [d] => { results := [.lit (.bool true)], args := [d] }
  | _ => none }
def fnExactSeSizeRow : OpenClaim := { program := "ytppafgkdilpkgaa", sum := "c621e5b5578e12df2ae292aec575ceee6aabb12f8983c9e85ca7d720e4983e2c", func := "loop.example/g00960/laws.FnExactSeSize", spec := "fnExactSeSize", apart := false }
def FnExactSeSizeSaid : Prop := fnExactSeSizeRow.holds Try.pinned (OpenSpec.ofChange fnExactSeSizeSpec)

/-- ITS FALSE NEIGHBOUR: 'it returns false'. Refute it at one input. -/
def fnExactSeSizeWrong : ChangeSpec := { name := "fnExactSeSize", fn := fun _ => fun
  | [d] => { results := [.lit (.bool false)], args := [d] }
  | _ => none }
def FnExactSeSizeWrongFalsely : Prop := fnExactSeSizeRow.holds Try.pinned (OpenSpec.ofChange fnExactSeSizeWrong)

/- THE SECOND FORM. 'bulk': how many values and letters a reading holds, each counted each time it is reached (what is shared counts as often as it is met; a slice's spare places count too). A statement '..UptoSaid' is the law's where the arguments, and the package variables that the reading takes, are together of bulk at most 1048576: NARROWER than '..Said'. Prove '..Said' where nothing that the law and all that it calls make is longer than what came in: it says more and counts as full. Else prove '..UptoSaid'. A law counts once. -/
mutual
def uptoBulk {H : Type} : DataW H → Nat
  | .lit (.string bytes) => bytes.length + 1
  | .lit _ => 1
  | .nil => 1
  | .ptr d => uptoBulk d + 1
  | .slice elems spare => uptoBulkAll elems + uptoBulkAll spare + 1
  | .agg parts => uptoBulkAll parts + 1
  | .iface _ d => uptoBulk d + 1
  | .map entries => uptoBulkEntries entries + 1
  | .held _ => 1
def uptoBulkAll {H : Type} : List (DataW H) → Nat
  | [] => 0
  | d :: r => uptoBulk d + uptoBulkAll r
def uptoBulkEntries {H : Type} : List (Lit × DataW H) → Nat
  | [] => 0
  | x :: r => uptoBulkEntry x + uptoBulkEntries r
def uptoBulkEntry {H : Type} : Lit × DataW H → Nat
  | (.string bytes, d) => bytes.length + uptoBulk d + 1
  | (_, d) => uptoBulk d + 1
 end
def uptoSmall : (H : Type) → List (DataW H) → Bool := fun _ ds => decide (uptoBulkAll ds ≤ 1048576)
def OpenSpec.upto (s : _root_.Go.ChangeSpec) : _root_.Go.OpenSpec := { _root_.Go.OpenSpec.ofChange s with cond := some uptoSmall }

/-- 'laws.FnCounts', WHERE WHAT IT READS IS OF BULK AT MOST 1048576: true; the input reads as it did. -/
def fnCountsUptoRow : OpenClaim := { program := "ytppafgkdilpkgaa", sum := "c621e5b5578e12df2ae292aec575ceee6aabb12f8983c9e85ca7d720e4983e2c", func := "loop.example/g00960/laws.FnCounts", spec := "fnCounts", inPlace := ["internal/abi.NoEscape", "internal/bytealg.MakeNoZero", "internal/bytealg.IndexByteString"], apart := false, narrowed := true }
def FnCountsUptoSaid : Prop := fnCountsUptoRow.holds Try.pinned (OpenSpec.upto fnCountsSpec)

/-- 'laws.FnSigned', WHERE WHAT IT READS IS OF BULK AT MOST 1048576: true; the input reads as it did. -/
def fnSignedUptoRow : OpenClaim := { program := "ytppafgkdilpkgaa", sum := "c621e5b5578e12df2ae292aec575ceee6aabb12f8983c9e85ca7d720e4983e2c", func := "loop.example/g00960/laws.FnSigned", spec := "fnSigned", inPlace := ["internal/abi.NoEscape", "internal/bytealg.MakeNoZero", "internal/bytealg.IndexByteString"], apart := false, narrowed := true }
def FnSignedUptoSaid : Prop := fnSignedUptoRow.holds Try.pinned (OpenSpec.upto fnSignedSpec)

/-- 'laws.FnExactUeRow', WHERE WHAT IT READS IS OF BULK AT MOST 1048576: true; the input reads as it did. -/
def fnExactUeRowUptoRow : OpenClaim := { program := "ytppafgkdilpkgaa", sum := "c621e5b5578e12df2ae292aec575ceee6aabb12f8983c9e85ca7d720e4983e2c", func := "loop.example/g00960/laws.FnExactUeRow", spec := "fnExactUeRow", inPlace := ["internal/abi.NoEscape", "internal/bytealg.MakeNoZero"], apart := false, narrowed := true }
def FnExactUeRowUptoSaid : Prop := fnExactUeRowUptoRow.holds Try.pinned (OpenSpec.upto fnExactUeRowSpec)

/-- 'laws.FnExactReadUe', WHERE WHAT IT READS IS OF BULK AT MOST 1048576: true; the input reads as it did. -/
def fnExactReadUeUptoRow : OpenClaim := { program := "ytppafgkdilpkgaa", sum := "c621e5b5578e12df2ae292aec575ceee6aabb12f8983c9e85ca7d720e4983e2c", func := "loop.example/g00960/laws.FnExactReadUe", spec := "fnExactReadUe", inPlace := ["internal/bytealg.IndexByteString"], apart := false, narrowed := true }
def FnExactReadUeUptoSaid : Prop := fnExactReadUeUptoRow.holds Try.pinned (OpenSpec.upto fnExactReadUeSpec)

/-- 'laws.FnExactFoldSe', WHERE WHAT IT READS IS OF BULK AT MOST 1048576: true; the input reads as it did. -/
def fnExactFoldSeUptoRow : OpenClaim := { program := "ytppafgkdilpkgaa", sum := "c621e5b5578e12df2ae292aec575ceee6aabb12f8983c9e85ca7d720e4983e2c", func := "loop.example/g00960/laws.FnExactFoldSe", spec := "fnExactFoldSe", apart := false, narrowed := true }
def FnExactFoldSeUptoSaid : Prop := fnExactFoldSeUptoRow.holds Try.pinned (OpenSpec.upto fnExactFoldSeSpec)

/-- 'laws.FnExactOpenSe', WHERE WHAT IT READS IS OF BULK AT MOST 1048576: true; the input reads as it did. -/
def fnExactOpenSeUptoRow : OpenClaim := { program := "ytppafgkdilpkgaa", sum := "c621e5b5578e12df2ae292aec575ceee6aabb12f8983c9e85ca7d720e4983e2c", func := "loop.example/g00960/laws.FnExactOpenSe", spec := "fnExactOpenSe", apart := false, narrowed := true }
def FnExactOpenSeUptoSaid : Prop := fnExactOpenSeUptoRow.holds Try.pinned (OpenSpec.upto fnExactOpenSeSpec)

/-- 'laws.FnExactSeRow', WHERE WHAT IT READS IS OF BULK AT MOST 1048576: true; the input reads as it did. -/
def fnExactSeRowUptoRow : OpenClaim := { program := "ytppafgkdilpkgaa", sum := "c621e5b5578e12df2ae292aec575ceee6aabb12f8983c9e85ca7d720e4983e2c", func := "loop.example/g00960/laws.FnExactSeRow", spec := "fnExactSeRow", inPlace := ["internal/abi.NoEscape", "internal/bytealg.MakeNoZero"], apart := false, narrowed := true }
def FnExactSeRowUptoSaid : Prop := fnExactSeRowUptoRow.holds Try.pinned (OpenSpec.upto fnExactSeRowSpec)

/-- 'laws.FnExactReadSe', WHERE WHAT IT READS IS OF BULK AT MOST 1048576: true; the input reads as it did. -/
def fnExactReadSeUptoRow : OpenClaim := { program := "ytppafgkdilpkgaa", sum := "c621e5b5578e12df2ae292aec575ceee6aabb12f8983c9e85ca7d720e4983e2c", func := "loop.example/g00960/laws.FnExactReadSe", spec := "fnExactReadSe", inPlace := ["internal/bytealg.IndexByteString"], apart := false, narrowed := true }
def FnExactReadSeUptoSaid : Prop := fnExactReadSeUptoRow.holds Try.pinned (OpenSpec.upto fnExactReadSeSpec)

/-- 'laws.FnExactUeSize', WHERE WHAT IT READS IS OF BULK AT MOST 1048576: true; the input reads as it did. -/
def fnExactUeSizeUptoRow : OpenClaim := { program := "ytppafgkdilpkgaa", sum := "c621e5b5578e12df2ae292aec575ceee6aabb12f8983c9e85ca7d720e4983e2c", func := "loop.example/g00960/laws.FnExactUeSize", spec := "fnExactUeSize", apart := false, narrowed := true }
def FnExactUeSizeUptoSaid : Prop := fnExactUeSizeUptoRow.holds Try.pinned (OpenSpec.upto fnExactUeSizeSpec)

/-- 'laws.FnExactSeSize', WHERE WHAT IT READS IS OF BULK AT MOST 1048576: true; the input reads as it did. -/
def fnExactSeSizeUptoRow : OpenClaim := { program := "ytppafgkdilpkgaa", sum := "c621e5b5578e12df2ae292aec575ceee6aabb12f8983c9e85ca7d720e4983e2c", func := "loop.example/g00960/laws.FnExactSeSize", spec := "fnExactSeSize", apart := false, narrowed := true }
def FnExactSeSizeUptoSaid : Prop := fnExactSeSizeUptoRow.holds Try.pinned (OpenSpec.upto fnExactSeSizeSpec)

end Rows
end Go.Proofs.Ytppafgkdilpkgaa
