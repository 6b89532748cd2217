/- Chapter 6: the specification's side: HexBeside. -/
import Derived.Test.YtkhjeleoppdjgabSiO
namespace Go.Proofs.Ytkhjeleoppdjgab
open Go.ChangeShapes Go.WideShapes Go.ChangeAt Go.RowKit

theorem hinfoInt : (Try.prog.info? 3).map (fun i => (i.zero, i.size, i.bytes)) = some (some (.int .i64 0), 1, 8) := by kernel_rfl
/-- The six steps to a spot's neighbours. -/
def nei : List (Int × Int) := [(1, 0), (0, 1), (-1, 1), (-1, 0), (0, -1), (1, -1)]
theorem nei_b : ∀ (i : Nat) (h : i < 6), -1 ≤ (nei[i]'h).1 ∧ (nei[i]'h).1 ≤ 1 ∧ -1 ≤ (nei[i]'h).2 ∧ (nei[i]'h).2 ≤ 1 ∧ -1 ≤ (nei[i]'h).1 + (nei[i]'h).2 ∧ (nei[i]'h).1 + (nei[i]'h).2 ≤ 1 := by decide
def hbe (x y : Int) (j : Nat) : List Int := (nei.take j).map fun s => hn (x + s.1) (y + s.2)
theorem hbe_len (x y : Int) (j : Nat) (h : j ≤ 6) : (hbe x y j).length = j := by
  have e : nei.length = 6 := rfl
  simp [hbe, e]
  omega
theorem hbe_succ (x y : Int) (j : Nat) (h : j < 6) : hbe x y (j + 1) = hbe x y j ++ [hn (x + (nei[j]'h).1) (y + (nei[j]'h).2)] := by
  unfold hbe
  rw [List.take_succ_eq_append_getElem (by exact h), List.map_append]
  rfl
theorem hbe_app (x y : Int) (j : Nat) (h : j < 6) : i64s (hbe x y j) ++ [.int .i64 (hn (x + (nei[j]'h).1) (y + (nei[j]'h).2))] = i64s (hbe x y (j + 1)) := by simp [hbe_succ x y j h]
end Go.Proofs.Ytkhjeleoppdjgab
