/- Chapter 9, by the specification: sums of digits, sums of two polygonal numbers, what fits a clue. -/
import Derived.Test.YtljleceepghfjaaDoorTfB
namespace Go.Proofs.YtljleceepghfjaaDoor
open Go.ChangeShapes Go.WideShapes Go.ChangeAt Go.RowKit

theorem dig9_int (n : Nat) (h : 0 < n) : ((dig9 n : Nat) : Int) = (n : Int) % 10 + ((dig9 (n / 10) : Nat) : Int) := by
  rw [dig9_step n h]
  omega
/-- The first place whose number is not less. -/
theorem stop9 (s : Int) (hs : 3 ≤ s) (n : Nat) : n ≤ num s (n : Int) := num_place s hs n
/-- What a clue's kind asks. -/
theorem fit9_0 (a b : Int) (n : Nat) : fit9 ⟨0, a, b⟩ n = shp9 a n := rfl
theorem fit9_1 (a b : Int) (n : Nat) : fit9 ⟨1, a, b⟩ n = !shp9 a n := rfl
theorem fit9_2 (a b : Int) (n : Nat) : fit9 ⟨2, a, b⟩ n = decide ((n : Int) % a = b) := rfl
theorem fit9_3 (a b : Int) (n : Nat) : fit9 ⟨3, a, b⟩ n = decide ((dig9 n : Int) = a) := rfl
theorem fit9_4 (a b : Int) (n : Nat) : fit9 ⟨4, a, b⟩ n = shp9 b ((n : Int) - a) := rfl
theorem fit9_5 (a b : Int) (n : Nat) : fit9 ⟨5, a, b⟩ n = sum9 a n := rfl
theorem betr_is {x lo hi : Int} (h : betr x lo hi = true) : lo ≤ x ∧ x ≤ hi := of_decide_eq_true h
end Go.Proofs.YtljleceepghfjaaDoor
