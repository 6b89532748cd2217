/- Chapter 7: the specification's rows of a picture. -/
import Derived.Test.YtbcgidgjdedkiaaDtA
import Derived.Deep.DeepCutAuto
namespace Go.Proofs.Ytbcgidgjdedkiaa
open Go.ChangeShapes Go.WideShapes Go.ChangeAt Go.RowKit

/-- A row as it must be. -/
def okRow (W : Nat) (r : List UInt8) : Bool := decide (r.length = W) && r.all isSgn
theorem rowsOk_iff (R : List (List UInt8)) : rowsOk R = true ↔ R.length ≤ 24 ∧ 1 ≤ (R.headD []).length ∧ (R.headD []).length ≤ 24 ∧ ∀ j (h : j < R.length), okRow (R.headD []).length R[j] = true := by
  unfold rowsOk
  simp only [Bool.and_eq_true, decide_eq_true_eq]
  constructor
  · rintro ⟨⟨⟨a, b⟩, c⟩, d⟩
    refine ⟨a, b, c, fun j h => ?_⟩
    have := (List.all_eq_true.1 d) _ (List.getElem_mem h)
    simpa [okRow] using this
  · rintro ⟨a, b, c, d⟩
    refine ⟨⟨⟨a, b⟩, c⟩, List.all_eq_true.2 fun r hr => ?_⟩
    obtain ⟨j, hj, rfl⟩ := List.getElem_of_mem hr
    have := d j hj
    simpa [okRow] using this
/-- What doRows answers, R the parts of the text. -/
def DoQ (R : List (List UInt8)) (w : World) (e : Ending) (w' : World) : Prop :=
  ((rowsOk R = true ∧ ∃ A c, e = .returned (.tuple #[.slice A R.length c, .bool true]) ∧ w'.ownsRow w.heap.size 9 1 (.slice A R.length c) R.length (strs R)) ∨
    (rowsOk R = false ∧ e = .returned (.tuple #[.slice none 0 0, .bool false]))) ∧ Below w.heap.size w w'
theorem sg_of (c : UInt8) : isSgn c = true ↔ ¬ ((c.toNat : Int) ≠ 111 ∧ (c.toNat : Int) ≠ 46) := by
  unfold isSgn
  simp only [Bool.or_eq_true, beq_iff_eq, ← UInt8.toNat_inj]
  have e1 : (111 : UInt8).toNat = 111 := rfl
  have e2 : (46 : UInt8).toNat = 46 := rfl
  rw [e1, e2]
  omega
end Go.Proofs.Ytbcgidgjdedkiaa
