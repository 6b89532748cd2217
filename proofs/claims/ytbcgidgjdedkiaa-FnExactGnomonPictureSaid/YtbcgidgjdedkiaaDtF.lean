/- Chapter 7: the specification's rows mirrored. -/
import Derived.Test.YtbcgidgjdedkiaaDtE
namespace Go.Proofs.Ytbcgidgjdedkiaa
open Go.ChangeShapes Go.WideShapes Go.ChangeAt Go.RowKit

theorem bt_cut1 (r : List UInt8) (x : Nat) (hx : x < r.length) : (bt r).extract x (x + 1) = bt [r.getD x 0] := by
  rw [show (bt r).extract x (x + 1) = bt ((r.take (x + 1)).drop x) from by rw [ba_cut]; rfl, List.take_succ_eq_append_getElem hx, List.drop_append]
  simp [List.getD, hx, List.drop_of_length_le, Nat.min_eq_left (Nat.le_of_lt hx)]
theorem rev_succ (r : List UInt8) (t : Nat) (h : t < r.length) : r.reverse.take (t + 1) = r.reverse.take t ++ [r.getD (r.length - 1 - t) 0] := by
  rw [List.take_succ_eq_append_getElem (by rw [List.length_reverse]; exact h), List.getElem_reverse]
  simp [List.getD, show r.length - 1 - t < r.length by omega]
theorem map_succ (R : List (List UInt8)) (f : List UInt8 → List UInt8) (j : Nat) (h : j < R.length) : (R.take (j + 1)).map f = (R.take j).map f ++ [f (R.getD j [])] := by
  rw [List.take_succ_eq_append_getElem h, List.map_append]
  simp [List.getD, h]
end Go.Proofs.Ytbcgidgjdedkiaa
