/- Sums of different places: the specification's counts. -/
import Derived.Test.YtjfpnecnmdclfaaMa
import Derived.Deep.RegionHeld3
namespace Go.Proofs.Ytjfpnecnmdclfaa
open Go.ChangeShapes Go.WideShapes Go.ChangeAt Go.RowKit

/-- Counts of different places up to k, but up to k + 1 for the sums beyond p. -/
def dmix (s : Int) (k : Nat) (p : Int) : Nat → Int := fun m => if p < (m : Int) then (D s (k + 1) m : Int) else (D s k m : Int)

theorem d_zero (s : Int) (m : Nat) : (D s 0 (m : Int) : Int) = if m = 0 then 1 else 0 := by
  rw [D]
  by_cases h : m = 0
  · subst h; simp
  · rw [if_neg (by omega), if_neg h]; rfl

end Go.Proofs.Ytjfpnecnmdclfaa
