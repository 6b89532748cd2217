/- What the laws of promises ask of slices of numbers: the same ones, their sum, whether they rise. No condition. -/
import Derived.Test.YtmcdmacpgjkelaaDoorMb
import Derived.Lib.Hide
import Derived.Deep.QuietTactic
namespace Go.Proofs.YtmcdmacpgjkelaaDoor
open Go.RowKit

/-- The sum of the first k numbers. -/
def sumF (xs : List Int) : Nat → Int
  | 0 => 0
  | k + 1 => sumF xs k + xs.getD k 0
end Go.Proofs.YtmcdmacpgjkelaaDoor
