/- Chapter 5: the law OddRunsOf. -/
import Derived.Test.YtcfpdlkkniilpaaGreatDoorRuJ
import Derived.Test.YtcfpdlkkniilpaaGreatDoorRuF
namespace Go.Proofs.YtcfpdlkkniilpaaGreatDoor
open Go.ChangeShapes Go.WideShapes Go.ChangeAt Go.RowKit

/-- The odd runs of the first k pairs. -/
theorem take_map_snoc {α β : Type} (f : α → β) (xs : List α) (k : Nat) (h : k < xs.length) : (xs.take (k + 1)).map f = (xs.take k).map f ++ [f xs[k]] := by
  rw [List.take_succ_eq_append_getElem h, List.map_append]
  rfl
end Go.Proofs.YtcfpdlkkniilpaaGreatDoor
