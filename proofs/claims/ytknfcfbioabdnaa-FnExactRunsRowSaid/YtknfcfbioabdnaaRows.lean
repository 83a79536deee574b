/-
  No cell of these rows narrows 'for every input' (looked for: loops, veiled, ifaces, maps, wideKeys, modest, calm, conditions, laid).
  DERIVED. THE GIVEN ROWS OF THIS SEAT. 8 by the template 'for every input the law returns true; each argument reads behind the call as it read before'; 0 by the template 'total and deterministic' (their statements: YtknfcfbioabdnaaTotals.lean).
  GIVEN WITH THE SEED: the statements are not yours to turn. If you find one false, say at which input.
  Laid BY PROGRAM, IN A SANDBOX (cutbox-rows.mjs): the forced cells as the released guide's own fill.sh prints them over the translation 7656d667f071debc… (all of the seat's roots in one cut). By AI agents, Wed Nov 11 2026. No macro, syntax, notation, axiom, sorry.
-/
import Derived.Test.YtknfcfbioabdnaaChecked
import GoSem.Claim
import GoSem.ClaimJoined
import GoSem.ClaimMapViews
import Derived.JoinedTies
import Derived.KernelRfl
namespace Go.Proofs.Ytknfcfbioabdnaa
/- THE CELL 'sum', in the pinned program and in every row, IS THE sha256 OF THE DUMP (.gsa) THAT YtknfcfbioabdnaaProg.lean LOADS. Nothing in Lean hashes anything: it is a label: what it is worth is what the hold of that sum in a sandbox is worth. -/
noncomputable def Try.pinned : Pinned := { name := "ytknfcfbioabdnaa", sum := "7656d667f071debc047129474fb288974a4bf144685286e21806d6852a152b58", checked := Try.checked }
namespace Rows
def none {H : Type} : Left H := { results := [], args := [] }

/-- 'laws.FnScans': WHATEVER THE INPUT: true; the input reads as it did. -/
def fnScansSpec : ChangeSpec := { name := "fnScans", fn := fun _ => fun
  | [d] => { results := [.lit (.bool true)], args := [d] }
  | _ => none }
def fnScansRow : OpenClaim := { program := "ytknfcfbioabdnaa", sum := "7656d667f071debc047129474fb288974a4bf144685286e21806d6852a152b58", func := "loop.example/g00960/laws.FnScans", spec := "fnScans", unfollowed := true, recurses := true, apart := false }
def FnScansSaid : Prop := fnScansRow.holds Try.pinned (OpenSpec.ofChange fnScansSpec)

/-- ITS FALSE NEIGHBOUR: 'it returns false'. Refute it at one input. -/
def fnScansWrong : ChangeSpec := { name := "fnScans", fn := fun _ => fun
  | [d] => { results := [.lit (.bool false)], args := [d] }
  | _ => none }
def FnScansWrongFalsely : Prop := fnScansRow.holds Try.pinned (OpenSpec.ofChange fnScansWrong)

/-- 'laws.FnRuns': WHATEVER THE INPUT: true; the input reads as it did. -/
def fnRunsSpec : ChangeSpec := { name := "fnRuns", fn := fun _ => fun
  | [d] => { results := [.lit (.bool true)], args := [d] }
  | _ => none }
def fnRunsRow : OpenClaim := { program := "ytknfcfbioabdnaa", sum := "7656d667f071debc047129474fb288974a4bf144685286e21806d6852a152b58", func := "loop.example/g00960/laws.FnRuns", spec := "fnRuns", inPlace := ["internal/abi.NoEscape", "internal/bytealg.MakeNoZero", "internal/bytealg.IndexByteString"], apart := false }
def FnRunsSaid : Prop := fnRunsRow.holds Try.pinned (OpenSpec.ofChange fnRunsSpec)

/-- ITS FALSE NEIGHBOUR: 'it returns false'. Refute it at one input. -/
def fnRunsWrong : ChangeSpec := { name := "fnRuns", fn := fun _ => fun
  | [d] => { results := [.lit (.bool false)], args := [d] }
  | _ => none }
def FnRunsWrongFalsely : Prop := fnRunsRow.holds Try.pinned (OpenSpec.ofChange fnRunsWrong)

/-- 'laws.FnExactScanAt': WHATEVER THE INPUT: true; the input reads as it did. -/
def fnExactScanAtSpec : ChangeSpec := { name := "fnExactScanAt", fn := fun _ => fun
  | [d1, d2] => { results := [.lit (.bool true)], args := [d1, d2] }
  | _ => none }
def fnExactScanAtRow : OpenClaim := { program := "ytknfcfbioabdnaa", sum := "7656d667f071debc047129474fb288974a4bf144685286e21806d6852a152b58", func := "loop.example/g00960/laws.FnExactScanAt", spec := "fnExactScanAt", unfollowed := true, recurses := true, apart := false }
def FnExactScanAtSaid : Prop := fnExactScanAtRow.holds Try.pinned (OpenSpec.ofChange fnExactScanAtSpec)

/-- ITS FALSE NEIGHBOUR: 'it returns false'. Refute it at one input. -/
def fnExactScanAtWrong : ChangeSpec := { name := "fnExactScanAt", fn := fun _ => fun
  | [d1, d2] => { results := [.lit (.bool false)], args := [d1, d2] }
  | _ => none }
def FnExactScanAtWrongFalsely : Prop := fnExactScanAtRow.holds Try.pinned (OpenSpec.ofChange fnExactScanAtWrong)

/-- 'laws.FnExactScanned': WHATEVER THE INPUT: true; the input reads as it did. -/
def fnExactScannedSpec : ChangeSpec := { name := "fnExactScanned", fn := fun _ => fun
  | [d1, d2] => { results := [.lit (.bool true)], args := [d1, d2] }
  | _ => none }
def fnExactScannedRow : OpenClaim := { program := "ytknfcfbioabdnaa", sum := "7656d667f071debc047129474fb288974a4bf144685286e21806d6852a152b58", func := "loop.example/g00960/laws.FnExactScanned", spec := "fnExactScanned", unfollowed := true, recurses := true, apart := false }
def FnExactScannedSaid : Prop := fnExactScannedRow.holds Try.pinned (OpenSpec.ofChange fnExactScannedSpec)

/-- ITS FALSE NEIGHBOUR: 'it returns false'. Refute it at one input. -/
def fnExactScannedWrong : ChangeSpec := { name := "fnExactScanned", fn := fun _ => fun
  | [d1, d2] => { results := [.lit (.bool false)], args := [d1, d2] }
  | _ => none }
def FnExactScannedWrongFalsely : Prop := fnExactScannedRow.holds Try.pinned (OpenSpec.ofChange fnExactScannedWrong)

/-- 'laws.FnExactUnscanned': WHATEVER THE INPUT: true; the input reads as it did. -/
def fnExactUnscannedSpec : ChangeSpec := { name := "fnExactUnscanned", fn := fun _ => fun
  | [d1, d2] => { results := [.lit (.bool true)], args := [d1, d2] }
  | _ => none }
def fnExactUnscannedRow : OpenClaim := { program := "ytknfcfbioabdnaa", sum := "7656d667f071debc047129474fb288974a4bf144685286e21806d6852a152b58", func := "loop.example/g00960/laws.FnExactUnscanned", spec := "fnExactUnscanned", unfollowed := true, recurses := true, apart := false }
def FnExactUnscannedSaid : Prop := fnExactUnscannedRow.holds Try.pinned (OpenSpec.ofChange fnExactUnscannedSpec)

/-- ITS FALSE NEIGHBOUR: 'it returns false'. Refute it at one input. -/
def fnExactUnscannedWrong : ChangeSpec := { name := "fnExactUnscanned", fn := fun _ => fun
  | [d1, d2] => { results := [.lit (.bool false)], args := [d1, d2] }
  | _ => none }
def FnExactUnscannedWrongFalsely : Prop := fnExactUnscannedRow.holds Try.pinned (OpenSpec.ofChange fnExactUnscannedWrong)

/-- 'laws.FnExactRunsRow': WHATEVER THE INPUT: true; the input reads as it did. -/
def fnExactRunsRowSpec : ChangeSpec := { name := "fnExactRunsRow", fn := fun _ => fun
  | [d] => { results := [.lit (.bool true)], args := [d] }
  | _ => none }
def fnExactRunsRowRow : OpenClaim := { program := "ytknfcfbioabdnaa", sum := "7656d667f071debc047129474fb288974a4bf144685286e21806d6852a152b58", func := "loop.example/g00960/laws.FnExactRunsRow", spec := "fnExactRunsRow", inPlace := ["internal/abi.NoEscape", "internal/bytealg.MakeNoZero"], apart := false }
def FnExactRunsRowSaid : Prop := fnExactRunsRowRow.holds Try.pinned (OpenSpec.ofChange fnExactRunsRowSpec)

/-- ITS FALSE NEIGHBOUR: 'it returns false'. Refute it at one input. -/
def fnExactRunsRowWrong : ChangeSpec := { name := "fnExactRunsRow", fn := fun _ => fun
  | [d] => { results := [.lit (.bool false)], args := [d] }
  | _ => none }
def FnExactRunsRowWrongFalsely : Prop := fnExactRunsRowRow.holds Try.pinned (OpenSpec.ofChange fnExactRunsRowWrong)

/-- 'laws.FnExactReadRuns': WHATEVER THE INPUT: true; the input reads as it did. -/
def fnExactReadRunsSpec : ChangeSpec := { name := "fnExactReadRuns", fn := fun _ => fun
  | [d1, d2, d3] => { results := [.lit (.bool true)], args := [d1, d2, d3] }
  | _ => none }
def fnExactReadRunsRow : OpenClaim := { program := "ytknfcfbioabdnaa", sum := "7656d667f071debc047129474fb288974a4bf144685286e21806d6852a152b58", func := "loop.example/g00960/laws.FnExactReadRuns", spec := "fnExactReadRuns", inPlace := ["internal/bytealg.IndexByteString"], apart := false }
def FnExactReadRunsSaid : Prop := fnExactReadRunsRow.holds Try.pinned (OpenSpec.ofChange fnExactReadRunsSpec)

/-- ITS FALSE NEIGHBOUR: 'it returns false'. Refute it at one input. -/
def fnExactReadRunsWrong : ChangeSpec := { name := "fnExactReadRuns", fn := fun _ => fun
  | [d1, d2, d3] => { results := [.lit (.bool false)], args := [d1, d2, d3] }
  | _ => none }
def FnExactReadRunsWrongFalsely : Prop := fnExactReadRunsRow.holds Try.pinned (OpenSpec.ofChange fnExactReadRunsWrong)

/-- 'laws.FnExactRunsSize': WHATEVER THE INPUT: true; the input reads as it did. -/
def fnExactRunsSizeSpec : ChangeSpec := { name := "fnExactRunsSize", fn := fun _ => fun
  | [d] => { results := [.lit (.bool true)], args := [d] }
  | _ => none }
def fnExactRunsSizeRow : OpenClaim := { program := "ytknfcfbioabdnaa", sum := "7656d667f071debc047129474fb288974a4bf144685286e21806d6852a152b58", func := "loop.example/g00960/laws.FnExactRunsSize", spec := "fnExactRunsSize", apart := false }
def FnExactRunsSizeSaid : Prop := fnExactRunsSizeRow.holds Try.pinned (OpenSpec.ofChange fnExactRunsSizeSpec)

/-- ITS FALSE NEIGHBOUR: 'it returns false'. Refute it at one input. -/
def fnExactRunsSizeWrong : ChangeSpec := { name := "fnExactRunsSize", fn := fun _ => fun
  | [d] => { results := [.lit (.bool false)], args := [d] }
  | _ => none }
def FnExactRunsSizeWrongFalsely : Prop := fnExactRunsSizeRow.holds Try.pinned (OpenSpec.ofChange fnExactRunsSizeWrong)

/- THE SECOND FORM. 'bulk': how many values and letters a reading holds, each counted each time it is reached (what is shared counts as often as it is met; a slice's spare places count too). A statement '..UptoSaid' is the law's where the arguments, and the package variables that the reading takes, are together of bulk at most 1048576: NARROWER than '..Said'. Prove '..Said' where nothing that the law and all that it calls make is longer than what came in: it says more and counts as full. Else prove '..UptoSaid'. A law counts once. -/
mutual
def uptoBulk {H : Type} : DataW H → Nat
  | .lit (.string bytes) => bytes.length + 1
  | .lit _ => 1
  | .nil => 1
  | .ptr d => uptoBulk d + 1
  | .slice elems spare => uptoBulkAll elems + uptoBulkAll spare + 1
  | .agg parts => uptoBulkAll parts + 1
  | .iface _ d => uptoBulk d + 1
  | .map entries => uptoBulkEntries entries + 1
  | .held _ => 1
def uptoBulkAll {H : Type} : List (DataW H) → Nat
  | [] => 0
  | d :: r => uptoBulk d + uptoBulkAll r
def uptoBulkEntries {H : Type} : List (Lit × DataW H) → Nat
  | [] => 0
  | x :: r => uptoBulkEntry x + uptoBulkEntries r
def uptoBulkEntry {H : Type} : Lit × DataW H → Nat
  | (.string bytes, d) => bytes.length + uptoBulk d + 1
  | (_, d) => uptoBulk d + 1
 end
def uptoSmall : (H : Type) → List (DataW H) → Bool := fun _ ds => decide (uptoBulkAll ds ≤ 1048576)
def OpenSpec.upto (s : _root_.Go.ChangeSpec) : _root_.Go.OpenSpec := { _root_.Go.OpenSpec.ofChange s with cond := some uptoSmall }

/-- 'laws.FnScans', WHERE WHAT IT READS IS OF BULK AT MOST 1048576: true; the input reads as it did. -/
def fnScansUptoRow : OpenClaim := { program := "ytknfcfbioabdnaa", sum := "7656d667f071debc047129474fb288974a4bf144685286e21806d6852a152b58", func := "loop.example/g00960/laws.FnScans", spec := "fnScans", unfollowed := true, recurses := true, apart := false, narrowed := true }
def FnScansUptoSaid : Prop := fnScansUptoRow.holds Try.pinned (OpenSpec.upto fnScansSpec)

/-- 'laws.FnRuns', WHERE WHAT IT READS IS OF BULK AT MOST 1048576: true; the input reads as it did. -/
def fnRunsUptoRow : OpenClaim := { program := "ytknfcfbioabdnaa", sum := "7656d667f071debc047129474fb288974a4bf144685286e21806d6852a152b58", func := "loop.example/g00960/laws.FnRuns", spec := "fnRuns", inPlace := ["internal/abi.NoEscape", "internal/bytealg.MakeNoZero", "internal/bytealg.IndexByteString"], apart := false, narrowed := true }
def FnRunsUptoSaid : Prop := fnRunsUptoRow.holds Try.pinned (OpenSpec.upto fnRunsSpec)

/-- 'laws.FnExactScanAt', WHERE WHAT IT READS IS OF BULK AT MOST 1048576: true; the input reads as it did. -/
def fnExactScanAtUptoRow : OpenClaim := { program := "ytknfcfbioabdnaa", sum := "7656d667f071debc047129474fb288974a4bf144685286e21806d6852a152b58", func := "loop.example/g00960/laws.FnExactScanAt", spec := "fnExactScanAt", unfollowed := true, recurses := true, apart := false, narrowed := true }
def FnExactScanAtUptoSaid : Prop := fnExactScanAtUptoRow.holds Try.pinned (OpenSpec.upto fnExactScanAtSpec)

/-- 'laws.FnExactScanned', WHERE WHAT IT READS IS OF BULK AT MOST 1048576: true; the input reads as it did. -/
def fnExactScannedUptoRow : OpenClaim := { program := "ytknfcfbioabdnaa", sum := "7656d667f071debc047129474fb288974a4bf144685286e21806d6852a152b58", func := "loop.example/g00960/laws.FnExactScanned", spec := "fnExactScanned", unfollowed := true, recurses := true, apart := false, narrowed := true }
def FnExactScannedUptoSaid : Prop := fnExactScannedUptoRow.holds Try.pinned (OpenSpec.upto fnExactScannedSpec)

/-- 'laws.FnExactUnscanned', WHERE WHAT IT READS IS OF BULK AT MOST 1048576: true; the input reads as it did. -/
def fnExactUnscannedUptoRow : OpenClaim := { program := "ytknfcfbioabdnaa", sum := "7656d667f071debc047129474fb288974a4bf144685286e21806d6852a152b58", func := "loop.example/g00960/laws.FnExactUnscanned", spec := "fnExactUnscanned", unfollowed := true, recurses := true, apart := false, narrowed := true }
def FnExactUnscannedUptoSaid : Prop := fnExactUnscannedUptoRow.holds Try.pinned (OpenSpec.upto fnExactUnscannedSpec)

/-- 'laws.FnExactRunsRow', WHERE WHAT IT READS IS OF BULK AT MOST 1048576: true; the input reads as it did. -/
def fnExactRunsRowUptoRow : OpenClaim := { program := "ytknfcfbioabdnaa", sum := "7656d667f071debc047129474fb288974a4bf144685286e21806d6852a152b58", func := "loop.example/g00960/laws.FnExactRunsRow", spec := "fnExactRunsRow", inPlace := ["internal/abi.NoEscape", "internal/bytealg.MakeNoZero"], apart := false, narrowed := true }
def FnExactRunsRowUptoSaid : Prop := fnExactRunsRowUptoRow.holds Try.pinned (OpenSpec.upto fnExactRunsRowSpec)

/-- 'laws.FnExactReadRuns', WHERE WHAT IT READS IS OF BULK AT MOST 1048576: true; the input reads as it did. -/
def fnExactReadRunsUptoRow : OpenClaim := { program := "ytknfcfbioabdnaa", sum := "7656d667f071debc047129474fb288974a4bf144685286e21806d6852a152b58", func := "loop.example/g00960/laws.FnExactReadRuns", spec := "fnExactReadRuns", inPlace := ["internal/bytealg.IndexByteString"], apart := false, narrowed := true }
def FnExactReadRunsUptoSaid : Prop := fnExactReadRunsUptoRow.holds Try.pinned (OpenSpec.upto fnExactReadRunsSpec)

/-- 'laws.FnExactRunsSize', WHERE WHAT IT READS IS OF BULK AT MOST 1048576: true; the input reads as it did. -/
def fnExactRunsSizeUptoRow : OpenClaim := { program := "ytknfcfbioabdnaa", sum := "7656d667f071debc047129474fb288974a4bf144685286e21806d6852a152b58", func := "loop.example/g00960/laws.FnExactRunsSize", spec := "fnExactRunsSize", apart := false, narrowed := true }
def FnExactRunsSizeUptoSaid : Prop := fnExactRunsSizeUptoRow.holds Try.pinned (OpenSpec.upto fnExactRunsSizeSpec)

end Rows
end Go.Proofs.Ytknfcfbioabdnaa
