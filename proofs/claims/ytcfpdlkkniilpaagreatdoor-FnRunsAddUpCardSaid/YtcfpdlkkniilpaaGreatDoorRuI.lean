/- Chapter 5: the law RectanglesOf. -/
import Derived.Test.YtcfpdlkkniilpaaGreatDoorRuH
import Derived.Test.YtcfpdlkkniilpaaGreatDoorRuL
namespace Go.Proofs.YtcfpdlkkniilpaaGreatDoor
open Go.ChangeShapes Go.WideShapes Go.ChangeAt Go.RowKit

def abL (x : Int × Int) : List Int := [x.1, x.2]
/-- What a function that hands back lists owes, out of its last world. -/
theorem resSS_of {w w1 : World} {V : Value} {rs : List Value} {yss : List (List Int)} (h : Lists w1 w.heap.size V rs yss) (hb : Below w.heap.size w w1) : ResSS true yss w (.returned (.tuple #[V, .bool true])) w1 := by
  obtain ⟨A, c, Af, cf, rfl, ho⟩ := h.ownL
  exact ⟨A, c, Af, cf, rfl, ho, hb⟩
theorem pre_lists (yss : List (List Int)) (L : Nat) (hn : yss.length ≤ 100000) (h : ∀ xs ∈ yss, xs.length ≤ L) (hL : L ≤ 1000) : pre (rowsOf yss) yss.length ≤ 1000000000 := by
  have := pre_le (rowsOf yss) yss.length L fun i hi => by
    have e : rowsOf yss i = yss[i] := by simp [rowsOf, List.getD_eq_getElem?_getD, hi]
    rw [e]
    exact h _ (List.getElem_mem hi)
  have h2 := Nat.mul_le_mul hn hL
  omega

end Go.Proofs.YtcfpdlkkniilpaaGreatDoor
