/- Chapter 7: slices of texts marked and held. -/
import Derived.Test.YtbabkcjnfdpafaaGreatDoorDtZa
import Derived.BigRegion
namespace Go.Proofs.YtbabkcjnfdpafaaGreatDoor
open Go.ChangeShapes Go.WideShapes Go.ChangeAt Go.RowKit

/-- The texts of the marks m, m + 1, .., n of them. -/
def mks (m n : Nat) : List (List UInt8) := (List.range n).map fun j => mkt (m + j)
theorem mks_len (m n : Nat) : (mks m n).length = n := by simp [mks]
theorem mks_get (m n k : Nat) (h : k < n) : (strs (mks m n))[k]? = some (.string (bt (mkt (m + k)))) := by simp [strs, mks, h]
theorem mks_set (m : Nat) (cs : List Value) (k : Nat) (h : k < cs.length) : (strs (mks m k) ++ cs.drop k).set k (.string (bt (mkt (m + k)))) = strs (mks m (k + 1)) ++ cs.drop (k + 1) := by
  rw [List.set_append_right _ _ (by simp [strs_len, mks_len])]
  simp only [strs_len, mks_len, Nat.sub_self]
  rw [List.drop_eq_getElem_cons h, List.set_cons_zero]
  simp [strs, mks, List.range_succ]
end Go.Proofs.YtbabkcjnfdpafaaGreatDoor
