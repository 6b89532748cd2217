/- Chapter 9: the laws' copies of clues and puzzles. -/
import Derived.Test.YtljleceepghfjaaDoorTfC
namespace Go.Proofs.YtljleceepghfjaaDoor
open Go.ChangeShapes Go.WideShapes Go.ChangeAt Go.RowKit

theorem add_next (ad : Addr) (j m : Nat) (h : m ≠ 0) : ad.add (j + m) = ⟨(ad.add j).block, (ad.add j).off + m, none⟩ := by
  unfold Addr.add
  by_cases h0 : j = 0
  · subst h0
    rw [if_neg (by omega), if_pos rfl, Nat.zero_add]
  · rw [if_neg (by omega), if_neg h0, Nat.add_assoc]
end Go.Proofs.YtljleceepghfjaaDoor
