/- Chapter 7: the specification's rows turned by a quarter. -/
import Derived.Test.YtbcgidgjdedkiaaDtF
import Derived.Test.YtbcgidgjdedkiaaDtQ
import Derived.Lib.OthersKept
import Derived.WalkSmall
namespace Go.Proofs.Ytbcgidgjdedkiaa
open Go.ChangeShapes Go.WideShapes Go.ChangeAt Go.RowKit

/-- The first t signs of column x from below. -/
def clm (W H : Nat) (d : Nat → Bool) (x t : Nat) : List UInt8 := (List.range t).map fun j => sgn (d ((H - 1 - j) * W + x))
theorem clm_succ (W H : Nat) (d : Nat → Bool) (x t : Nat) : clm W H d x (t + 1) = clm W H d x t ++ [sgn (d ((H - 1 - t) * W + x))] := by simp [clm, List.range_succ]
theorem clm_len (W H : Nat) (d : Nat → Bool) (x t : Nat) : (clm W H d x t).length = t := by simp [clm]
theorem clm_all (W H : Nat) (d : Nat → Bool) (x : Nat) : clm W H d x H = gRow H (tD W H d) x := by
  unfold clm gRow
  refine List.map_congr_left fun j hj => ?_
  have hj2 : j < H := List.mem_range.1 hj
  have h0 : 0 < H := by omega
  unfold tD
  rw [Nat.mul_comm x H, Nat.mul_add_mod, Nat.mod_eq_of_lt hj2, Nat.mul_add_div h0, Nat.div_eq_of_lt hj2, Nat.add_zero]
theorem gRow_at (W : Nat) (d : Nat → Bool) (y x : Nat) (h : x < W) : (gRow W d y).getD x 0 = sgn (d (y * W + x)) := by simp [gRow, List.getD, h]
theorem gRows_at (W H : Nat) (d : Nat → Bool) (y : Nat) (h : y < H) : (gRows W H d).getD y [] = gRow W d y := by simp [gRows, List.getD, h]
theorem sgn_128 (b : Bool) : (sgn b).toNat < 128 := by cases b <;> decide
theorem bt_at (r : List UInt8) (x : Nat) (h : x < (bt r).size) : (bt r)[x]'h = r.getD x 0 := by
  have h2 : x < r.length := by rw [← bt_size r]; exact h
  simp only [List.getD, List.getElem?_eq_getElem h2]
  rfl
theorem gRow_128 (W : Nat) (d : Nat → Bool) (y x : Nat) (h : x < (bt (gRow W d y)).size) : ((bt (gRow W d y))[x]'h).toNat < 128 := by
  rw [bt_at, gRow_at _ _ _ _ (by rw [bt_size, gRow_len] at h; exact h)]
  exact sgn_128 _
end Go.Proofs.Ytbcgidgjdedkiaa
