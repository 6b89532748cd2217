/- Chapter 6: the specification's hexagon rings and sizes, the triangle, the zigzag. -/
import Derived.Test.YtkhjeleoppdjgabSiA
namespace Go.Proofs.Ytkhjeleoppdjgab
open Go.ChangeShapes Go.WideShapes Go.ChangeAt Go.RowKit

theorem hx_step {n x : Int} (hn : 0 ≤ n) (h0 : 0 ≤ x) (_h1 : x ≤ hx n) : 3 * x * (x + 1) < n ↔ x < hx n := by
  have h := hx_is n hn
  have hi := h.hi
  constructor
  · intro g
    rcases Int.lt_or_le x (hx n) with k | k
    · exact k
    · have := hex_mono (a := hx n) (b := x) h.nn k
      omega
  · intro g
    have lo := h.lo (by omega)
    rw [hex_below] at lo
    have := hex_mono (a := x) (b := hx n - 1) h0 (by omega)
    omega
end Go.Proofs.Ytkhjeleoppdjgab
