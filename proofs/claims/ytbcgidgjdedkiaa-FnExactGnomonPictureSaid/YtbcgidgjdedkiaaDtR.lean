/- Chapter 7: the specification's layers. -/
import Derived.Test.YtbcgidgjdedkiaaDtL
namespace Go.Proofs.Ytbcgidgjdedkiaa
open Go.ChangeShapes Go.WideShapes Go.ChangeAt Go.RowKit

theorem lys_end (W H f : Nat) (d : Nat → Bool) (h : cnt (brd W H d) (W * H) = 0) : lys W H f d = [] := by
  cases f with
  | zero => rfl
  | succ f => simp [lys, h]
theorem lys_more (W H f : Nat) (d : Nat → Bool) (h : ¬ cnt (brd W H d) (W * H) = 0) : lys W H (f + 1) d = (cnt (brd W H d) (W * H) : Int) :: lys W H f (tkn W H d) := by
  simp [lys, h]
/-- How long a slice is. -/
def lenV : Value → Nat
  | .slice _ n _ => n
  | _ => 0
theorem lenV_slice (A : Option Addr) (n c : Nat) : lenV (.slice A n c) = n := rfl
theorem resI_of {w w' : World} {v : Value} {xs : List Int} {base : Nat} (h : w'.ownsRow base 3 1 v xs.length (i64s xs)) (hB : w.heap.size ≤ base) (hb : Below w.heap.size w w') : ResI true xs w (.returned (.tuple #[v, .bool true])) w' := by
  obtain ⟨A, c, rfl⟩ := row_form h
  exact ⟨A, c, rfl, (own_of_row h).wide hB (Nat.le_refl _), hb⟩
theorem Marks.kept {w w' : World} {base g n c : Nat} {d : Nat → Bool} {row : Option Nat} (h : Marks w base g n c d) (hg : w.grownBy w' row) (hne : row ≠ some g) : Marks w' base g n c d :=
  World.ownsRow.kept h hg (.inr fun e => hne (by rw [← e]; rfl))
end Go.Proofs.Ytbcgidgjdedkiaa
