/-
  No cell of these rows narrows 'for every input' (looked for: loops, veiled, ifaces, maps, wideKeys, modest, calm, conditions, laid).
  DERIVED. THE GIVEN ROWS OF THIS SEAT. 9 by the template 'for every input the law returns true; each argument reads behind the call as it read before'; 0 by the template 'total and deterministic' (their statements: YtholbbfibmnicaaTotals.lean).
  GIVEN WITH THE SEED: the statements are not yours to turn. If you find one false, say at which input.
  Laid BY PROGRAM, IN A SANDBOX (cutbox-rows.mjs): the forced cells as the released guide's own fill.sh prints them over the translation ffd50c91e2316f1b… (all of the seat's roots in one cut). By AI agents, Wed Nov 11 2026. No macro, syntax, notation, axiom, sorry.
-/
import Derived.Test.YtholbbfibmnicaaChecked
import GoSem.Claim
import GoSem.ClaimJoined
import GoSem.ClaimMapViews
import Derived.JoinedTies
import Derived.KernelRfl
namespace Go.Proofs.Ytholbbfibmnicaa
/- THE CELL 'sum', in the pinned program and in every row, IS THE sha256 OF THE DUMP (.gsa) THAT YtholbbfibmnicaaProg.lean LOADS. Nothing in Lean hashes anything: it is a label: what it is worth is what the hold of that sum in a sandbox is worth. -/
noncomputable def Try.pinned : Pinned := { name := "ytholbbfibmnicaa", sum := "ffd50c91e2316f1b834ac677e7e8b8386c46e75b119dbd3583dfc23f18999816", checked := Try.checked }
namespace Rows
def none {H : Type} : Left H := { results := [], args := [] }

/-- 'laws.FnFours': WHATEVER THE INPUT: true; the input reads as it did. -/
def fnFoursSpec : ChangeSpec := { name := "fnFours", fn := fun _ => fun
  | [d] => { results := [.lit (.bool true)], args := [d] }
  | _ => none }
def fnFoursRow : OpenClaim := { program := "ytholbbfibmnicaa", sum := "ffd50c91e2316f1b834ac677e7e8b8386c46e75b119dbd3583dfc23f18999816", func := "loop.example/g00960/laws.FnFours", spec := "fnFours", unfollowed := true, recurses := true, apart := false }
def FnFoursSaid : Prop := fnFoursRow.holds Try.pinned (OpenSpec.ofChange fnFoursSpec)

/-- ITS FALSE NEIGHBOUR: 'it returns false'. Refute it at one input. -/
def fnFoursWrong : ChangeSpec := { name := "fnFours", fn := fun _ => fun
  | [d] => { results := [.lit (.bool false)], args := [d] }
  | _ => none }
def FnFoursWrongFalsely : Prop := fnFoursRow.holds Try.pinned (OpenSpec.ofChange fnFoursWrong)

/-- 'laws.FnEights': WHATEVER THE INPUT: true; the input reads as it did. -/
def fnEightsSpec : ChangeSpec := { name := "fnEights", fn := fun _ => fun
  | [d] => { results := [.lit (.bool true)], args := [d] }
  | _ => none }
def fnEightsRow : OpenClaim := { program := "ytholbbfibmnicaa", sum := "ffd50c91e2316f1b834ac677e7e8b8386c46e75b119dbd3583dfc23f18999816", func := "loop.example/g00960/laws.FnEights", spec := "fnEights", apart := false }
def FnEightsSaid : Prop := fnEightsRow.holds Try.pinned (OpenSpec.ofChange fnEightsSpec)

/-- ITS FALSE NEIGHBOUR: 'it returns false'. Refute it at one input. -/
def fnEightsWrong : ChangeSpec := { name := "fnEights", fn := fun _ => fun
  | [d] => { results := [.lit (.bool false)], args := [d] }
  | _ => none }
def FnEightsWrongFalsely : Prop := fnEightsRow.holds Try.pinned (OpenSpec.ofChange fnEightsWrong)

/-- 'laws.FnSigns': WHATEVER THE INPUT: true; the input reads as it did. -/
def fnSignsSpec : ChangeSpec := { name := "fnSigns", fn := fun _ => fun
  | [d] => { results := [.lit (.bool true)], args := [d] }
  | _ => none }
def fnSignsRow : OpenClaim := { program := "ytholbbfibmnicaa", sum := "ffd50c91e2316f1b834ac677e7e8b8386c46e75b119dbd3583dfc23f18999816", func := "loop.example/g00960/laws.FnSigns", spec := "fnSigns", apart := false }
def FnSignsSaid : Prop := fnSignsRow.holds Try.pinned (OpenSpec.ofChange fnSignsSpec)

/-- ITS FALSE NEIGHBOUR: 'it returns false'. Refute it at one input. -/
def fnSignsWrong : ChangeSpec := { name := "fnSigns", fn := fun _ => fun
  | [d] => { results := [.lit (.bool false)], args := [d] }
  | _ => none }
def FnSignsWrongFalsely : Prop := fnSignsRow.holds Try.pinned (OpenSpec.ofChange fnSignsWrong)

/-- 'laws.FnExactFour': WHATEVER THE INPUT: true; the input reads as it did. -/
def fnExactFourSpec : ChangeSpec := { name := "fnExactFour", fn := fun _ => fun
  | [d] => { results := [.lit (.bool true)], args := [d] }
  | _ => none }
def fnExactFourRow : OpenClaim := { program := "ytholbbfibmnicaa", sum := "ffd50c91e2316f1b834ac677e7e8b8386c46e75b119dbd3583dfc23f18999816", func := "loop.example/g00960/laws.FnExactFour", spec := "fnExactFour", unfollowed := true, recurses := true, apart := false }
def FnExactFourSaid : Prop := fnExactFourRow.holds Try.pinned (OpenSpec.ofChange fnExactFourSpec)

/-- ITS FALSE NEIGHBOUR: 'it returns false'. Refute it at one input. -/
def fnExactFourWrong : ChangeSpec := { name := "fnExactFour", fn := fun _ => fun
  | [d] => { results := [.lit (.bool false)], args := [d] }
  | _ => none }
def FnExactFourWrongFalsely : Prop := fnExactFourRow.holds Try.pinned (OpenSpec.ofChange fnExactFourWrong)

/-- 'laws.FnExactFourBack': WHATEVER THE INPUT: true; the input reads as it did. -/
def fnExactFourBackSpec : ChangeSpec := { name := "fnExactFourBack", fn := fun _ => fun
  | [d] => { results := [.lit (.bool true)], args := [d] }
  | _ => none }
def fnExactFourBackRow : OpenClaim := { program := "ytholbbfibmnicaa", sum := "ffd50c91e2316f1b834ac677e7e8b8386c46e75b119dbd3583dfc23f18999816", func := "loop.example/g00960/laws.FnExactFourBack", spec := "fnExactFourBack", unfollowed := true, recurses := true, apart := false }
def FnExactFourBackSaid : Prop := fnExactFourBackRow.holds Try.pinned (OpenSpec.ofChange fnExactFourBackSpec)

/-- ITS FALSE NEIGHBOUR: 'it returns false'. Refute it at one input. -/
def fnExactFourBackWrong : ChangeSpec := { name := "fnExactFourBack", fn := fun _ => fun
  | [d] => { results := [.lit (.bool false)], args := [d] }
  | _ => none }
def FnExactFourBackWrongFalsely : Prop := fnExactFourBackRow.holds Try.pinned (OpenSpec.ofChange fnExactFourBackWrong)

/-- 'laws.FnExactSignOf': WHATEVER THE INPUT: true; the input reads as it did. -/
def fnExactSignOfSpec : ChangeSpec := { name := "fnExactSignOf", fn := fun _ => fun
  | [d1, d2] => { results := [.lit (.bool true)], args := [d1, d2] }
  | _ => none }
def fnExactSignOfRow : OpenClaim := { program := "ytholbbfibmnicaa", sum := "ffd50c91e2316f1b834ac677e7e8b8386c46e75b119dbd3583dfc23f18999816", func := "loop.example/g00960/laws.FnExactSignOf", spec := "fnExactSignOf", apart := false }
def FnExactSignOfSaid : Prop := fnExactSignOfRow.holds Try.pinned (OpenSpec.ofChange fnExactSignOfSpec)

/-- ITS FALSE NEIGHBOUR: 'it returns false'. Refute it at one input. -/
def fnExactSignOfWrong : ChangeSpec := { name := "fnExactSignOf", fn := fun _ => fun
  | [d1, d2] => { results := [.lit (.bool false)], args := [d1, d2] }
  | _ => none }
def FnExactSignOfWrongFalsely : Prop := fnExactSignOfRow.holds Try.pinned (OpenSpec.ofChange fnExactSignOfWrong)

/-- 'laws.FnExactEight': WHATEVER THE INPUT: true; the input reads as it did. -/
def fnExactEightSpec : ChangeSpec := { name := "fnExactEight", fn := fun _ => fun
  | [d] => { results := [.lit (.bool true)], args := [d] }
  | _ => none }
def fnExactEightRow : OpenClaim := { program := "ytholbbfibmnicaa", sum := "ffd50c91e2316f1b834ac677e7e8b8386c46e75b119dbd3583dfc23f18999816", func := "loop.example/g00960/laws.FnExactEight", spec := "fnExactEight", apart := false }
def FnExactEightSaid : Prop := fnExactEightRow.holds Try.pinned (OpenSpec.ofChange fnExactEightSpec)

/-- ITS FALSE NEIGHBOUR: 'it returns false'. Refute it at one input. -/
def fnExactEightWrong : ChangeSpec := { name := "fnExactEight", fn := fun _ => fun
  | [d] => { results := [.lit (.bool false)], args := [d] }
  | _ => none }
def FnExactEightWrongFalsely : Prop := fnExactEightRow.holds Try.pinned (OpenSpec.ofChange fnExactEightWrong)

/-- 'laws.FnExactEightBack': WHATEVER THE INPUT: true; the input reads as it did. -/
def fnExactEightBackSpec : ChangeSpec := { name := "fnExactEightBack", fn := fun _ => fun
  | [d] => { results := [.lit (.bool true)], args := [d] }
  | _ => none }
def fnExactEightBackRow : OpenClaim := { program := "ytholbbfibmnicaa", sum := "ffd50c91e2316f1b834ac677e7e8b8386c46e75b119dbd3583dfc23f18999816", func := "loop.example/g00960/laws.FnExactEightBack", spec := "fnExactEightBack", apart := false }
def FnExactEightBackSaid : Prop := fnExactEightBackRow.holds Try.pinned (OpenSpec.ofChange fnExactEightBackSpec)

/-- ITS FALSE NEIGHBOUR: 'it returns false'. Refute it at one input. -/
def fnExactEightBackWrong : ChangeSpec := { name := "fnExactEightBack", fn := fun _ => fun
  | [d] => { results := [.lit (.bool false)], args := [d] }
  | _ => none }
def FnExactEightBackWrongFalsely : Prop := fnExactEightBackRow.holds Try.pinned (OpenSpec.ofChange fnExactEightBackWrong)

/-- 'laws.FnExactWeight': WHATEVER THE INPUT: true; the input reads as it did. -/
def fnExactWeightSpec : ChangeSpec := { name := "fnExactWeight", fn := fun _ => fun
  | [d] => { results := [.lit (.bool true)], args := [d] }
  | _ => none }
def fnExactWeightRow : OpenClaim := { program := "ytholbbfibmnicaa", sum := "ffd50c91e2316f1b834ac677e7e8b8386c46e75b119dbd3583dfc23f18999816", func := "loop.example/g00960/laws.FnExactWeight", spec := "fnExactWeight", apart := false }
def FnExactWeightSaid : Prop := fnExactWeightRow.holds Try.pinned (OpenSpec.ofChange fnExactWeightSpec)

/-- ITS FALSE NEIGHBOUR: 'it returns false'. Refute it at one input. -/
def fnExactWeightWrong : ChangeSpec := { name := "fnExactWeight", fn := fun _ => fun
  | [d] => { results := [.lit (.bool false)], args := [d] }
  | _ => none }
def FnExactWeightWrongFalsely : Prop := fnExactWeightRow.holds Try.pinned (OpenSpec.ofChange fnExactWeightWrong)

/- THE SECOND FORM. 'bulk': how many values and letters a reading holds, each counted each time it is reached (what is shared counts as often as it is met; a slice's spare places count too). A statement '..UptoSaid' is the law's where the arguments, and the package variables that the reading takes, are together of bulk at most 1048576: NARROWER than '..Said'. Prove '..Said' where nothing that the law and all that it calls make is longer than what came in: it says more and counts as full. Else prove '..UptoSaid'. A law counts once. -/
mutual
def uptoBulk {H : Type} : DataW H → Nat
  | .lit (.string bytes) => bytes.length + 1
  | .lit _ => 1
  | .nil => 1
  | .ptr d => uptoBulk d + 1
  | .slice elems spare => uptoBulkAll elems + uptoBulkAll spare + 1
  | .agg parts => uptoBulkAll parts + 1
  | .iface _ d => uptoBulk d + 1
  | .map entries => uptoBulkEntries entries + 1
  | .held _ => 1
def uptoBulkAll {H : Type} : List (DataW H) → Nat
  | [] => 0
  | d :: r => uptoBulk d + uptoBulkAll r
def uptoBulkEntries {H : Type} : List (Lit × DataW H) → Nat
  | [] => 0
  | x :: r => uptoBulkEntry x + uptoBulkEntries r
def uptoBulkEntry {H : Type} : Lit × DataW H → Nat
  | (.string bytes, d) => bytes.length + uptoBulk d + 1
  | (_, d) => uptoBulk d + 1
 end
def uptoSmall : (H : Type) → List (DataW H) → Bool := fun _ ds => decide (uptoBulkAll ds ≤ 1048576)
def OpenSpec.upto (s : _root_.Go.ChangeSpec) : _root_.Go.OpenSpec := { _root_.Go.OpenSpec.ofChange s with cond := some uptoSmall }

/-- 'laws.FnFours', WHERE WHAT IT READS IS OF BULK AT MOST 1048576: true; the input reads as it did. -/
def fnFoursUptoRow : OpenClaim := { program := "ytholbbfibmnicaa", sum := "ffd50c91e2316f1b834ac677e7e8b8386c46e75b119dbd3583dfc23f18999816", func := "loop.example/g00960/laws.FnFours", spec := "fnFours", unfollowed := true, recurses := true, apart := false, narrowed := true }
def FnFoursUptoSaid : Prop := fnFoursUptoRow.holds Try.pinned (OpenSpec.upto fnFoursSpec)

/-- 'laws.FnEights', WHERE WHAT IT READS IS OF BULK AT MOST 1048576: true; the input reads as it did. -/
def fnEightsUptoRow : OpenClaim := { program := "ytholbbfibmnicaa", sum := "ffd50c91e2316f1b834ac677e7e8b8386c46e75b119dbd3583dfc23f18999816", func := "loop.example/g00960/laws.FnEights", spec := "fnEights", apart := false, narrowed := true }
def FnEightsUptoSaid : Prop := fnEightsUptoRow.holds Try.pinned (OpenSpec.upto fnEightsSpec)

/-- 'laws.FnSigns', WHERE WHAT IT READS IS OF BULK AT MOST 1048576: true; the input reads as it did. -/
def fnSignsUptoRow : OpenClaim := { program := "ytholbbfibmnicaa", sum := "ffd50c91e2316f1b834ac677e7e8b8386c46e75b119dbd3583dfc23f18999816", func := "loop.example/g00960/laws.FnSigns", spec := "fnSigns", apart := false, narrowed := true }
def FnSignsUptoSaid : Prop := fnSignsUptoRow.holds Try.pinned (OpenSpec.upto fnSignsSpec)

/-- 'laws.FnExactFour', WHERE WHAT IT READS IS OF BULK AT MOST 1048576: true; the input reads as it did. -/
def fnExactFourUptoRow : OpenClaim := { program := "ytholbbfibmnicaa", sum := "ffd50c91e2316f1b834ac677e7e8b8386c46e75b119dbd3583dfc23f18999816", func := "loop.example/g00960/laws.FnExactFour", spec := "fnExactFour", unfollowed := true, recurses := true, apart := false, narrowed := true }
def FnExactFourUptoSaid : Prop := fnExactFourUptoRow.holds Try.pinned (OpenSpec.upto fnExactFourSpec)

/-- 'laws.FnExactFourBack', WHERE WHAT IT READS IS OF BULK AT MOST 1048576: true; the input reads as it did. -/
def fnExactFourBackUptoRow : OpenClaim := { program := "ytholbbfibmnicaa", sum := "ffd50c91e2316f1b834ac677e7e8b8386c46e75b119dbd3583dfc23f18999816", func := "loop.example/g00960/laws.FnExactFourBack", spec := "fnExactFourBack", unfollowed := true, recurses := true, apart := false, narrowed := true }
def FnExactFourBackUptoSaid : Prop := fnExactFourBackUptoRow.holds Try.pinned (OpenSpec.upto fnExactFourBackSpec)

/-- 'laws.FnExactSignOf', WHERE WHAT IT READS IS OF BULK AT MOST 1048576: true; the input reads as it did. -/
def fnExactSignOfUptoRow : OpenClaim := { program := "ytholbbfibmnicaa", sum := "ffd50c91e2316f1b834ac677e7e8b8386c46e75b119dbd3583dfc23f18999816", func := "loop.example/g00960/laws.FnExactSignOf", spec := "fnExactSignOf", apart := false, narrowed := true }
def FnExactSignOfUptoSaid : Prop := fnExactSignOfUptoRow.holds Try.pinned (OpenSpec.upto fnExactSignOfSpec)

/-- 'laws.FnExactEight', WHERE WHAT IT READS IS OF BULK AT MOST 1048576: true; the input reads as it did. -/
def fnExactEightUptoRow : OpenClaim := { program := "ytholbbfibmnicaa", sum := "ffd50c91e2316f1b834ac677e7e8b8386c46e75b119dbd3583dfc23f18999816", func := "loop.example/g00960/laws.FnExactEight", spec := "fnExactEight", apart := false, narrowed := true }
def FnExactEightUptoSaid : Prop := fnExactEightUptoRow.holds Try.pinned (OpenSpec.upto fnExactEightSpec)

/-- 'laws.FnExactEightBack', WHERE WHAT IT READS IS OF BULK AT MOST 1048576: true; the input reads as it did. -/
def fnExactEightBackUptoRow : OpenClaim := { program := "ytholbbfibmnicaa", sum := "ffd50c91e2316f1b834ac677e7e8b8386c46e75b119dbd3583dfc23f18999816", func := "loop.example/g00960/laws.FnExactEightBack", spec := "fnExactEightBack", apart := false, narrowed := true }
def FnExactEightBackUptoSaid : Prop := fnExactEightBackUptoRow.holds Try.pinned (OpenSpec.upto fnExactEightBackSpec)

/-- 'laws.FnExactWeight', WHERE WHAT IT READS IS OF BULK AT MOST 1048576: true; the input reads as it did. -/
def fnExactWeightUptoRow : OpenClaim := { program := "ytholbbfibmnicaa", sum := "ffd50c91e2316f1b834ac677e7e8b8386c46e75b119dbd3583dfc23f18999816", func := "loop.example/g00960/laws.FnExactWeight", spec := "fnExactWeight", apart := false, narrowed := true }
def FnExactWeightUptoSaid : Prop := fnExactWeightUptoRow.holds Try.pinned (OpenSpec.upto fnExactWeightSpec)

end Rows
end Go.Proofs.Ytholbbfibmnicaa
