/-
  A row of numbers that a call owns has room for as many as it has.
-/
import Derived.Test.YtnlbigjfnjcldaaOwnKit
namespace Go.Proofs.Ytnlbigjfnjcldaa
open Go.RowKit
set_option linter.unusedVariables false
set_option maxRecDepth 20000

theorem owned_cap {w : World} {B n c s : Nat} {e : TypeId} {p : Option Addr} {xs : List Value} (h : w.ownsRow B e s (.slice p n c) n xs) : n ≤ c := by
  rcases h.2 with ⟨e, h0⟩ | ⟨g, cap, cur, e, hb, hg, hn, _⟩
  · cases e
    exact Nat.zero_le _
  · cases e
    exact hn
end Go.Proofs.Ytnlbigjfnjcldaa
