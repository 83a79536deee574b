/-
  No cell of these rows narrows 'for every input' (looked for: loops, veiled, ifaces, maps, wideKeys, modest, calm, conditions, laid).
  DERIVED. THE GIVEN ROWS OF THIS SEAT. 9 by the template 'for every input the law returns true; each argument reads behind the call as it read before'; 0 by the template 'total and deterministic' (their statements: YtpodpfdbklffgaaTotals.lean).
  GIVEN WITH THE SEED: the statements are not yours to turn. If you find one false, say at which input.
  Laid BY PROGRAM, IN A SANDBOX (cutbox-rows.mjs): the forced cells as the released guide's own fill.sh prints them over the translation 3096a1a088925da5… (all of the seat's roots in one cut). By AI agents, Wed Nov 11 2026. No macro, syntax, notation, axiom, sorry.
-/
import Derived.Test.YtpodpfdbklffgaaChecked
import GoSem.Claim
import GoSem.ClaimJoined
import GoSem.ClaimMapViews
import Derived.JoinedTies
import Derived.KernelRfl
namespace Go.Proofs.Ytpodpfdbklffgaa
/- THE CELL 'sum', in the pinned program and in every row, IS THE sha256 OF THE DUMP (.gsa) THAT YtpodpfdbklffgaaProg.lean LOADS. Nothing in Lean hashes anything: it is a label: what it is worth is what the hold of that sum in a sandbox is worth. -/
noncomputable def Try.pinned : Pinned := { name := "ytpodpfdbklffgaa", sum := "3096a1a088925da5948b13ebe0c616ea0d82fb45820178df4859868cd80d674a", checked := Try.checked }
namespace Rows
def none {H : Type} : Left H := { results := [], args := [] }

/-- 'laws.FnCuts': WHATEVER THE INPUT: true; the input reads as it did. -/
def fnCutsSpec : ChangeSpec := { name := "fnCuts", fn := fun _ => fun
  | [d] => { results := [.lit (.bool true)], args := [d] }
  | _ => none }
def fnCutsRow : OpenClaim := { program := "ytpodpfdbklffgaa", sum := "3096a1a088925da5948b13ebe0c616ea0d82fb45820178df4859868cd80d674a", func := "loop.example/g00960/laws.FnCuts", spec := "fnCuts", inPlace := ["internal/abi.NoEscape"], apart := false }
def FnCutsSaid : Prop := fnCutsRow.holds Try.pinned (OpenSpec.ofChange fnCutsSpec)

/-- ITS FALSE NEIGHBOUR: 'it returns false'. Refute it at one input. -/
def fnCutsWrong : ChangeSpec := { name := "fnCuts", fn := fun _ => fun
  | [d] => { results := [.lit (.bool false)], args := [d] }
  | _ => none }
def FnCutsWrongFalsely : Prop := fnCutsRow.holds Try.pinned (OpenSpec.ofChange fnCutsWrong)

/-- 'laws.FnGreys': WHATEVER THE INPUT: true; the input reads as it did. -/
def fnGreysSpec : ChangeSpec := { name := "fnGreys", fn := fun _ => fun
  | [d] => { results := [.lit (.bool true)], args := [d] }
  | _ => none }
def fnGreysRow : OpenClaim := { program := "ytpodpfdbklffgaa", sum := "3096a1a088925da5948b13ebe0c616ea0d82fb45820178df4859868cd80d674a", func := "loop.example/g00960/laws.FnGreys", spec := "fnGreys", inPlace := ["internal/abi.NoEscape", "internal/bytealg.MakeNoZero"], apart := false }
def FnGreysSaid : Prop := fnGreysRow.holds Try.pinned (OpenSpec.ofChange fnGreysSpec)

/-- ITS FALSE NEIGHBOUR: 'it returns false'. Refute it at one input. -/
def fnGreysWrong : ChangeSpec := { name := "fnGreys", fn := fun _ => fun
  | [d] => { results := [.lit (.bool false)], args := [d] }
  | _ => none }
def FnGreysWrongFalsely : Prop := fnGreysRow.holds Try.pinned (OpenSpec.ofChange fnGreysWrong)

/-- 'laws.FnExactPicOk': WHATEVER THE INPUT: true; the input reads as it did. -/
def fnExactPicOkSpec : ChangeSpec := { name := "fnExactPicOk", fn := fun _ => fun
  | [d] => { results := [.lit (.bool true)], args := [d] }
  | _ => none }
def fnExactPicOkRow : OpenClaim := { program := "ytpodpfdbklffgaa", sum := "3096a1a088925da5948b13ebe0c616ea0d82fb45820178df4859868cd80d674a", func := "loop.example/g00960/laws.FnExactPicOk", spec := "fnExactPicOk", apart := false }
def FnExactPicOkSaid : Prop := fnExactPicOkRow.holds Try.pinned (OpenSpec.ofChange fnExactPicOkSpec)

/-- ITS FALSE NEIGHBOUR: 'it returns false'. Refute it at one input. -/
def fnExactPicOkWrong : ChangeSpec := { name := "fnExactPicOk", fn := fun _ => fun
  | [d] => { results := [.lit (.bool false)], args := [d] }
  | _ => none }
def FnExactPicOkWrongFalsely : Prop := fnExactPicOkRow.holds Try.pinned (OpenSpec.ofChange fnExactPicOkWrong)

/-- 'laws.FnExactGrey': WHATEVER THE INPUT: true; the input reads as it did. -/
def fnExactGreySpec : ChangeSpec := { name := "fnExactGrey", fn := fun _ => fun
  | [d1, d2] => { results := [.lit (.bool true)], args := [d1, d2] }
  | _ => none }
def fnExactGreyRow : OpenClaim := { program := "ytpodpfdbklffgaa", sum := "3096a1a088925da5948b13ebe0c616ea0d82fb45820178df4859868cd80d674a", func := "loop.example/g00960/laws.FnExactGrey", spec := "fnExactGrey", inPlace := ["internal/abi.NoEscape", "internal/bytealg.MakeNoZero"], apart := false }
def FnExactGreySaid : Prop := fnExactGreyRow.holds Try.pinned (OpenSpec.ofChange fnExactGreySpec)

/-- ITS FALSE NEIGHBOUR: 'it returns false'. Refute it at one input. -/
def fnExactGreyWrong : ChangeSpec := { name := "fnExactGrey", fn := fun _ => fun
  | [d1, d2] => { results := [.lit (.bool false)], args := [d1, d2] }
  | _ => none }
def FnExactGreyWrongFalsely : Prop := fnExactGreyRow.holds Try.pinned (OpenSpec.ofChange fnExactGreyWrong)

/-- 'laws.FnExactDotAt': WHATEVER THE INPUT: true; the input reads as it did. -/
def fnExactDotAtSpec : ChangeSpec := { name := "fnExactDotAt", fn := fun _ => fun
  | [d1, d2, d3] => { results := [.lit (.bool true)], args := [d1, d2, d3] }
  | _ => none }
def fnExactDotAtRow : OpenClaim := { program := "ytpodpfdbklffgaa", sum := "3096a1a088925da5948b13ebe0c616ea0d82fb45820178df4859868cd80d674a", func := "loop.example/g00960/laws.FnExactDotAt", spec := "fnExactDotAt", apart := false }
def FnExactDotAtSaid : Prop := fnExactDotAtRow.holds Try.pinned (OpenSpec.ofChange fnExactDotAtSpec)

/-- ITS FALSE NEIGHBOUR: 'it returns false'. Refute it at one input. -/
def fnExactDotAtWrong : ChangeSpec := { name := "fnExactDotAt", fn := fun _ => fun
  | [d1, d2, d3] => { results := [.lit (.bool false)], args := [d1, d2, d3] }
  | _ => none }
def FnExactDotAtWrongFalsely : Prop := fnExactDotAtRow.holds Try.pinned (OpenSpec.ofChange fnExactDotAtWrong)

/-- 'laws.FnExactBlockOf': WHATEVER THE INPUT: true; the input reads as it did. -/
def fnExactBlockOfSpec : ChangeSpec := { name := "fnExactBlockOf", fn := fun _ => fun
  | [d1, d2, d3] => { results := [.lit (.bool true)], args := [d1, d2, d3] }
  | _ => none }
def fnExactBlockOfRow : OpenClaim := { program := "ytpodpfdbklffgaa", sum := "3096a1a088925da5948b13ebe0c616ea0d82fb45820178df4859868cd80d674a", func := "loop.example/g00960/laws.FnExactBlockOf", spec := "fnExactBlockOf", apart := false }
def FnExactBlockOfSaid : Prop := fnExactBlockOfRow.holds Try.pinned (OpenSpec.ofChange fnExactBlockOfSpec)

/-- ITS FALSE NEIGHBOUR: 'it returns false'. Refute it at one input. -/
def fnExactBlockOfWrong : ChangeSpec := { name := "fnExactBlockOf", fn := fun _ => fun
  | [d1, d2, d3] => { results := [.lit (.bool false)], args := [d1, d2, d3] }
  | _ => none }
def FnExactBlockOfWrongFalsely : Prop := fnExactBlockOfRow.holds Try.pinned (OpenSpec.ofChange fnExactBlockOfWrong)

/-- 'laws.FnExactCutOf': WHATEVER THE INPUT: true; the input reads as it did. -/
def fnExactCutOfSpec : ChangeSpec := { name := "fnExactCutOf", fn := fun _ => fun
  | [d1, d2] => { results := [.lit (.bool true)], args := [d1, d2] }
  | _ => none }
def fnExactCutOfRow : OpenClaim := { program := "ytpodpfdbklffgaa", sum := "3096a1a088925da5948b13ebe0c616ea0d82fb45820178df4859868cd80d674a", func := "loop.example/g00960/laws.FnExactCutOf", spec := "fnExactCutOf", inPlace := ["internal/abi.NoEscape"], apart := false }
def FnExactCutOfSaid : Prop := fnExactCutOfRow.holds Try.pinned (OpenSpec.ofChange fnExactCutOfSpec)

/-- ITS FALSE NEIGHBOUR: 'it returns false'. Refute it at one input. -/
def fnExactCutOfWrong : ChangeSpec := { name := "fnExactCutOf", fn := fun _ => fun
  | [d1, d2] => { results := [.lit (.bool false)], args := [d1, d2] }
  | _ => none }
def FnExactCutOfWrongFalsely : Prop := fnExactCutOfRow.holds Try.pinned (OpenSpec.ofChange fnExactCutOfWrong)

/-- 'laws.FnExactPasted': WHATEVER THE INPUT: true; the input reads as it did. -/
def fnExactPastedSpec : ChangeSpec := { name := "fnExactPasted", fn := fun _ => fun
  | [d1, d2, d3, d4] => { results := [.lit (.bool true)], args := [d1, d2, d3, d4] }
  | _ => none }
def fnExactPastedRow : OpenClaim := { program := "ytpodpfdbklffgaa", sum := "3096a1a088925da5948b13ebe0c616ea0d82fb45820178df4859868cd80d674a", func := "loop.example/g00960/laws.FnExactPasted", spec := "fnExactPasted", apart := false }
def FnExactPastedSaid : Prop := fnExactPastedRow.holds Try.pinned (OpenSpec.ofChange fnExactPastedSpec)

/-- ITS FALSE NEIGHBOUR: 'it returns false'. Refute it at one input. -/
def fnExactPastedWrong : ChangeSpec := { name := "fnExactPasted", fn := fun _ => fun
  | [d1, d2, d3, d4] => { results := [.lit (.bool false)], args := [d1, d2, d3, d4] }
  | _ => none }
def FnExactPastedWrongFalsely : Prop := fnExactPastedRow.holds Try.pinned (OpenSpec.ofChange fnExactPastedWrong)

/-- 'laws.FnExactApart': WHATEVER THE INPUT: true; the input reads as it did. -/
def fnExactApartSpec : ChangeSpec := { name := "fnExactApart", fn := fun _ => fun
  | [d1, d2] => { results := [.lit (.bool true)], args := [d1, d2] }
  | _ => none }
def fnExactApartRow : OpenClaim := { program := "ytpodpfdbklffgaa", sum := "3096a1a088925da5948b13ebe0c616ea0d82fb45820178df4859868cd80d674a", func := "loop.example/g00960/laws.FnExactApart", spec := "fnExactApart", apart := false }
def FnExactApartSaid : Prop := fnExactApartRow.holds Try.pinned (OpenSpec.ofChange fnExactApartSpec)

/-- ITS FALSE NEIGHBOUR: 'it returns false'. Refute it at one input. -/
def fnExactApartWrong : ChangeSpec := { name := "fnExactApart", fn := fun _ => fun
  | [d1, d2] => { results := [.lit (.bool false)], args := [d1, d2] }
  | _ => none }
def FnExactApartWrongFalsely : Prop := fnExactApartRow.holds Try.pinned (OpenSpec.ofChange fnExactApartWrong)

/- THE SECOND FORM. 'bulk': how many values and letters a reading holds, each counted each time it is reached (what is shared counts as often as it is met; a slice's spare places count too). A statement '..UptoSaid' is the law's where the arguments, and the package variables that the reading takes, are together of bulk at most 1048576: NARROWER than '..Said'. Prove '..Said' where nothing that the law and all that it calls make is longer than what came in: it says more and counts as full. Else prove '..UptoSaid'. A law counts once. -/
mutual
def uptoBulk {H : Type} : DataW H → Nat
  | .lit (.string bytes) => bytes.length + 1
  | .lit _ => 1
  | .nil => 1
  | .ptr d => uptoBulk d + 1
  | .slice elems spare => uptoBulkAll elems + uptoBulkAll spare + 1
  | .agg parts => uptoBulkAll parts + 1
  | .iface _ d => uptoBulk d + 1
  | .map entries => uptoBulkEntries entries + 1
  | .held _ => 1
def uptoBulkAll {H : Type} : List (DataW H) → Nat
  | [] => 0
  | d :: r => uptoBulk d + uptoBulkAll r
def uptoBulkEntries {H : Type} : List (Lit × DataW H) → Nat
  | [] => 0
  | x :: r => uptoBulkEntry x + uptoBulkEntries r
def uptoBulkEntry {H : Type} : Lit × DataW H → Nat
  | (.string bytes, d) => bytes.length + uptoBulk d + 1
  | (_, d) => uptoBulk d + 1
 end
def uptoSmall : (H : Type) → List (DataW H) → Bool := fun _ ds => decide (uptoBulkAll ds ≤ 1048576)
def OpenSpec.upto (s : _root_.Go.ChangeSpec) : _root_.Go.OpenSpec := { _root_.Go.OpenSpec.ofChange s with cond := some uptoSmall }

/-- 'laws.FnCuts', WHERE WHAT IT READS IS OF BULK AT MOST 1048576: true; the input reads as it did. -/
def fnCutsUptoRow : OpenClaim := { program := "ytpodpfdbklffgaa", sum := "3096a1a088925da5948b13ebe0c616ea0d82fb45820178df4859868cd80d674a", func := "loop.example/g00960/laws.FnCuts", spec := "fnCuts", inPlace := ["internal/abi.NoEscape"], apart := false, narrowed := true }
def FnCutsUptoSaid : Prop := fnCutsUptoRow.holds Try.pinned (OpenSpec.upto fnCutsSpec)

/-- 'laws.FnGreys', WHERE WHAT IT READS IS OF BULK AT MOST 1048576: true; the input reads as it did. -/
def fnGreysUptoRow : OpenClaim := { program := "ytpodpfdbklffgaa", sum := "3096a1a088925da5948b13ebe0c616ea0d82fb45820178df4859868cd80d674a", func := "loop.example/g00960/laws.FnGreys", spec := "fnGreys", inPlace := ["internal/abi.NoEscape", "internal/bytealg.MakeNoZero"], apart := false, narrowed := true }
def FnGreysUptoSaid : Prop := fnGreysUptoRow.holds Try.pinned (OpenSpec.upto fnGreysSpec)

/-- 'laws.FnExactPicOk', WHERE WHAT IT READS IS OF BULK AT MOST 1048576: true; the input reads as it did. -/
def fnExactPicOkUptoRow : OpenClaim := { program := "ytpodpfdbklffgaa", sum := "3096a1a088925da5948b13ebe0c616ea0d82fb45820178df4859868cd80d674a", func := "loop.example/g00960/laws.FnExactPicOk", spec := "fnExactPicOk", apart := false, narrowed := true }
def FnExactPicOkUptoSaid : Prop := fnExactPicOkUptoRow.holds Try.pinned (OpenSpec.upto fnExactPicOkSpec)

/-- 'laws.FnExactGrey', WHERE WHAT IT READS IS OF BULK AT MOST 1048576: true; the input reads as it did. -/
def fnExactGreyUptoRow : OpenClaim := { program := "ytpodpfdbklffgaa", sum := "3096a1a088925da5948b13ebe0c616ea0d82fb45820178df4859868cd80d674a", func := "loop.example/g00960/laws.FnExactGrey", spec := "fnExactGrey", inPlace := ["internal/abi.NoEscape", "internal/bytealg.MakeNoZero"], apart := false, narrowed := true }
def FnExactGreyUptoSaid : Prop := fnExactGreyUptoRow.holds Try.pinned (OpenSpec.upto fnExactGreySpec)

/-- 'laws.FnExactDotAt', WHERE WHAT IT READS IS OF BULK AT MOST 1048576: true; the input reads as it did. -/
def fnExactDotAtUptoRow : OpenClaim := { program := "ytpodpfdbklffgaa", sum := "3096a1a088925da5948b13ebe0c616ea0d82fb45820178df4859868cd80d674a", func := "loop.example/g00960/laws.FnExactDotAt", spec := "fnExactDotAt", apart := false, narrowed := true }
def FnExactDotAtUptoSaid : Prop := fnExactDotAtUptoRow.holds Try.pinned (OpenSpec.upto fnExactDotAtSpec)

/-- 'laws.FnExactBlockOf', WHERE WHAT IT READS IS OF BULK AT MOST 1048576: true; the input reads as it did. -/
def fnExactBlockOfUptoRow : OpenClaim := { program := "ytpodpfdbklffgaa", sum := "3096a1a088925da5948b13ebe0c616ea0d82fb45820178df4859868cd80d674a", func := "loop.example/g00960/laws.FnExactBlockOf", spec := "fnExactBlockOf", apart := false, narrowed := true }
def FnExactBlockOfUptoSaid : Prop := fnExactBlockOfUptoRow.holds Try.pinned (OpenSpec.upto fnExactBlockOfSpec)

/-- 'laws.FnExactCutOf', WHERE WHAT IT READS IS OF BULK AT MOST 1048576: true; the input reads as it did. -/
def fnExactCutOfUptoRow : OpenClaim := { program := "ytpodpfdbklffgaa", sum := "3096a1a088925da5948b13ebe0c616ea0d82fb45820178df4859868cd80d674a", func := "loop.example/g00960/laws.FnExactCutOf", spec := "fnExactCutOf", inPlace := ["internal/abi.NoEscape"], apart := false, narrowed := true }
def FnExactCutOfUptoSaid : Prop := fnExactCutOfUptoRow.holds Try.pinned (OpenSpec.upto fnExactCutOfSpec)

/-- 'laws.FnExactPasted', WHERE WHAT IT READS IS OF BULK AT MOST 1048576: true; the input reads as it did. -/
def fnExactPastedUptoRow : OpenClaim := { program := "ytpodpfdbklffgaa", sum := "3096a1a088925da5948b13ebe0c616ea0d82fb45820178df4859868cd80d674a", func := "loop.example/g00960/laws.FnExactPasted", spec := "fnExactPasted", apart := false, narrowed := true }
def FnExactPastedUptoSaid : Prop := fnExactPastedUptoRow.holds Try.pinned (OpenSpec.upto fnExactPastedSpec)

/-- 'laws.FnExactApart', WHERE WHAT IT READS IS OF BULK AT MOST 1048576: true; the input reads as it did. -/
def fnExactApartUptoRow : OpenClaim := { program := "ytpodpfdbklffgaa", sum := "3096a1a088925da5948b13ebe0c616ea0d82fb45820178df4859868cd80d674a", func := "loop.example/g00960/laws.FnExactApart", spec := "fnExactApart", apart := false, narrowed := true }
def FnExactApartUptoSaid : Prop := fnExactApartUptoRow.holds Try.pinned (OpenSpec.upto fnExactApartSpec)

end Rows
end Go.Proofs.Ytpodpfdbklffgaa
