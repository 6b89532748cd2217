/- Chapter 7: the specification's border. -/
import Derived.Test.YtbcgidgjdedkiaaDtI
namespace Go.Proofs.Ytbcgidgjdedkiaa
open Go.ChangeShapes Go.WideShapes Go.ChangeAt Go.RowKit

/-- The border among the first a places. -/
def pbr (W H : Nat) (d : Nat → Bool) (a : Nat) (i : Nat) : Bool := decide (i < a) && brd W H d i
theorem pbr_zero (W H : Nat) (d : Nat → Bool) (i : Nat) : pbr W H d 0 i = false := by simp [pbr]
theorem pbr_succ (W H : Nat) (d : Nat → Bool) (a i : Nat) : updB (pbr W H d a) a (brd W H d a) i = pbr W H d (a + 1) i := by
  unfold updB pbr
  by_cases h : i = a
  · subst h
    simp
  · rw [if_neg h]
    have : (i < a) ↔ (i < a + 1) := by omega
    simp only [this]
theorem pbr_all (W H : Nat) (d : Nat → Bool) (n i : Nat) (h : i < n) : pbr W H d n i = brd W H d i := by simp [pbr, h]
/-- Whether a place is open by its first k places beside. -/
def opn (W H : Nat) (d : Nat → Bool) (i k : Nat) : Bool := decide ((nbs W H i).length < 4) || ((nbs W H i).take k).any fun j => !d j
theorem opn_succ (W H : Nat) (d : Nat → Bool) (i k : Nat) (h : k < (nbs W H i).length) : opn W H d i (k + 1) = (opn W H d i k || !d ((nbs W H i)[k])) := by
  unfold opn
  rw [List.take_succ_eq_append_getElem h, List.any_append]
  simp [Bool.or_assoc]
theorem opn_all (W H : Nat) (d : Nat → Bool) (i : Nat) : brd W H d i = (d i && opn W H d i (nbs W H i).length) := by
  unfold brd opn
  rw [List.take_length]
end Go.Proofs.Ytbcgidgjdedkiaa
