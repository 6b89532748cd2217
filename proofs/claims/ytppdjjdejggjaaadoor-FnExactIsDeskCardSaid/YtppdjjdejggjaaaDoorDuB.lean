/- Chapter 7: the program's sets of dots: drop, and the library's Copy of a map into another one. -/
import Derived.Test.YtppdjjdejggjaaaDoorDuA
namespace Go.Proofs.YtppdjjdejggjaaaDoor
open Go.ChangeShapes Go.WideShapes Go.ChangeAt Go.RowKit Go.Maps

/-- The dots that stay where those of T that are no longer to come are dropped; those that are there where those are laid in. -/
def dlS (S T L : Int → Int → Bool) (x y : Int) : Bool := S x y && !(T x y && !L x y)
def ulS (S T L : Int → Int → Bool) (x y : Int) : Bool := S x y || (T x y && !L x y)
theorem pick_at {x y u v : Int} (h : ¬ (u = x ∧ v = y)) : (decide (u = x) && decide (v = y)) = false := by
  by_cases a : u = x
  · have : ¬ v = y := fun b => h ⟨a, b⟩
    simp [this]
  · simp [a]
theorem dl_start (S T : Int → Int → Bool) (u v : Int) : S u v = dlS S T T u v := by unfold dlS; cases T u v <;> simp
theorem dl_end {S T L : Int → Int → Bool} (h : ∀ x y, L x y = false) (u v : Int) : dlS S T L u v = dS S T u v := by unfold dlS dS; rw [h]; simp
theorem dl_step {S T L : Int → Int → Bool} {x y : Int} (hT : T x y = true) (u v : Int) : rS (dlS S T L) x y u v = dlS S T (rS L x y) u v := by
  unfold dlS rS
  by_cases e : u = x ∧ v = y
  · obtain ⟨rfl, rfl⟩ := e
    simp [hT]
  · rw [pick_at e]
    simp
theorem ul_start (S T : Int → Int → Bool) (u v : Int) : S u v = ulS S T T u v := by unfold ulS; cases T u v <;> simp
theorem ul_end {S T L : Int → Int → Bool} (h : ∀ x y, L x y = false) (u v : Int) : ulS S T L u v = uS S T u v := by unfold ulS uS; rw [h]; simp
theorem ul_step {S T L : Int → Int → Bool} {x y : Int} (hT : T x y = true) (u v : Int) : aS (ulS S T L) x y u v = ulS S T (rS L x y) u v := by
  unfold ulS rS aS
  by_cases e : u = x ∧ v = y
  · obtain ⟨rfl, rfl⟩ := e
    simp [hT]
  · rw [pick_at e]
    simp
end Go.Proofs.YtppdjjdejggjaaaDoor
