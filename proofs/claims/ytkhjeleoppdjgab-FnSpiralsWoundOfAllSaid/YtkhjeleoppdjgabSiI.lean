/- Chapter 6: the specification's triangle and zigzag. -/
import Derived.Test.YtkhjeleoppdjgabSiA
namespace Go.Proofs.Ytkhjeleoppdjgab
open Go.ChangeShapes Go.WideShapes Go.ChangeAt Go.RowKit

/-- The line of a number, and how far it lies in it. -/
noncomputable def ln (n : Int) : Int := pl 3 n
noncomputable def inl (n : Int) : Int := n - num 3 (pl 3 n)
structure LnB (n l m k : Int) : Prop where
  l0 : 0 ≤ l
  l1 : l ≤ 1414214
  m0 : 0 ≤ m
  m1 : m ≤ n
  k : k = n - m
theorem ln_b (n : Int) (h0 : 0 ≤ n) (h1 : n ≤ 1000000) : LnB n (ln n) (num 3 (ln n)) (inl n) :=
  ⟨pl_nn 3 n (by omega) h0, pl_le 3 n (by omega) h0 (by omega), num_nn 3 _ (by omega), (fits_iff 3 n (pl 3 n) (by omega) h0 (pl_nn 3 n (by omega) h0)).2 (Int.le_refl _), rfl⟩
def zzX (l k : Int) : Int := if l % 2 = 1 then k else l - k
def zzY (l k : Int) : Int := if l % 2 = 1 then l - k else k
def zzN (x y : Int) : Int := if (x + y) % 2 = 1 then num 3 (x + y) + x else num 3 (x + y) + y
end Go.Proofs.Ytkhjeleoppdjgab
