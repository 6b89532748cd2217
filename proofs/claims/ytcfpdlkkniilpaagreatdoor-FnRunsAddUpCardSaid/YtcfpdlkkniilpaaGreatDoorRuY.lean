/- Chapter 5: the program's differences of squares. -/
import Derived.Test.YtcfpdlkkniilpaaGreatDoorRuX
import Derived.Test.YtcfpdlkkniilpaaGreatDoorRuK
import Derived.Test.YtcfpdlkkniilpaaGreatDoorRuI
namespace Go.Proofs.YtcfpdlkkniilpaaGreatDoor
open Go.ChangeShapes Go.WideShapes Go.ChangeAt Go.RowKit Go.Shelf Go.Sort

theorem two_one_new (w : World) (a b : Value) (v : Value) (t t2 : TypeId) : ∀ j u, [v][j]? = some u → ((w.alloc (.cells #[a, b] t)).alloc (.cells #[v] t2)).cell? ((⟨w.heap.size + 1, 0, none⟩ : Addr).add j) = some u := by
  intro j u hj
  match j, hj with
  | 0, hj => simp at hj; subst hj; simp [Addr.add, go_sem]
end Go.Proofs.YtcfpdlkkniilpaaGreatDoor
