/- Chapter 9, by the specification: the numbers that fit all clues. -/
import Derived.Test.YtljleceepghfjaaDoorTfG
namespace Go.Proofs.YtljleceepghfjaaDoor
open Go.ChangeShapes Go.WideShapes Go.ChangeAt Go.RowKit

/-- A number fits all of the clues. -/
noncomputable def fits9 (cs : List Clu) (n : Nat) : Bool := cs.all fun c => fit9 c n
theorem sol9_yes (cs : List Clu) (j : Nat) (h : 1 ≤ j) (hf : fits9 cs j = true) : sol9 cs j = sol9 cs (j - 1) ++ [(j : Int)] := by
  obtain ⟨k, rfl⟩ : ∃ k, j = k + 1 := ⟨j - 1, by omega⟩
  unfold sol9
  rw [Nat.add_sub_cancel]
  refine sel_some _ k ?_
  have e : ((k : Int) + 1).toNat = k + 1 := by omega
  rw [e]
  have e2 : (k : Int) + 1 = ((k + 1 : Nat) : Int) := by omega
  rw [← e2]
  exact if_pos hf
theorem sol9_no (cs : List Clu) (j : Nat) (h : 1 ≤ j) (hf : fits9 cs j = false) : sol9 cs j = sol9 cs (j - 1) := by
  obtain ⟨k, rfl⟩ : ∃ k, j = k + 1 := ⟨j - 1, by omega⟩
  unfold sol9
  rw [Nat.add_sub_cancel]
  refine sel_none _ k ?_
  have e : ((k : Int) + 1).toNat = k + 1 := by omega
  rw [e]
  refine if_neg ?_
  show ¬ fits9 cs (k + 1) = true
  rw [hf]
  exact Bool.false_ne_true
theorem sol9_len (cs : List Clu) (n : Nat) : (sol9 cs n).length ≤ n := sel_len _ n
theorem fits9_zero (cs : List Clu) (n : Nat) : fits9 (cs.take 0) n = true := by simp [fits9]
theorem fits9_step (cs : List Clu) (n k : Nat) (h : k < cs.length) : fits9 (cs.take (k + 1)) n = (fits9 (cs.take k) n && fit9 (cs.getD k clu0) n) := all9_step h
end Go.Proofs.YtljleceepghfjaaDoor
