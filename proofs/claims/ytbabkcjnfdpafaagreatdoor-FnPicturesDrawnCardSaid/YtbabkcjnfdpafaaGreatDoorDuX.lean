/- Chapter 7: the laws' frames over texts, where the program asks the library's variable. -/
import Derived.Test.YtbabkcjnfdpafaaGreatDoorDuQ
import Derived.Test.YtbabkcjnfdpafaaGreatDoorDtV
import Derived.Test.YtbabkcjnfdpafaaGreatDoorDtZc
namespace Go.Proofs.YtbabkcjnfdpafaaGreatDoor
open Go.ChangeShapes Go.WideShapes Go.ChangeAt Go.RowKit

theorem MaxL.upto {w0 w w' : World} {B : Nat} (h0 : MaxL w0) (h : MaxL w) (hb : Below B w w') (hB : w0.heap.size ≤ B) : MaxL w' := by
  obtain ⟨_, h0⟩ := h0
  obtain ⟨m, h⟩ := h
  exact ⟨m, (hb.cell (p := ⟨0, 0, none⟩) (Nat.lt_of_lt_of_le (World.block_lt_of_cell? _ _ h0) hB)).trans h⟩
theorem MaxL.drewN {w : World} (h : MaxL w) (n : Nat) : MaxL (w.drewN n) := h
end Go.Proofs.YtbabkcjnfdpafaaGreatDoor
