/- Contracts of the program's functions of chapter 1, 3: the last place up to a number, and the place of a number. -/
import Derived.Test.YtljleceepghfjaaDoorImB
namespace Go.Proofs.YtljleceepghfjaaDoor
open Go.RowKit

/-- What a rule's numbers V and the greatest place L that fits must keep. -/
structure Fits (a b c n L : Int) (V : Int → Int) : Prop where
  bds : ∀ k, 0 ≤ k → k < 2097152 → RuleBds a b c k (V k)
  l0 : 0 ≤ L
  l1 : L < 2097152
  iff : ∀ k, 1 ≤ k → k < 2097152 → (V k ≤ n ↔ k ≤ L)


end Go.Proofs.YtljleceepghfjaaDoor
