/- A list's capacity is at least its length. No condition. -/
import Derived.Test.YtkhjeleoppdjgacOwn
namespace Go.Proofs.Ytkhjeleoppdjgac
open Go.RowKit
theorem row_cap {w : World} {base : Nat} {e : TypeId} {size n c : Nat} {A : Option Addr} {cs : List Value} (h : w.ownsRow base e size (.slice A n c) n cs) : n ≤ c := by
  rcases h.2 with ⟨hv, h0⟩ | ⟨g, cap, cur, hv, hg, hh, hnc, _⟩
  · injection hv with _ h1 h2
    omega
  · injection hv with _ h1 h2
    omega
/-- What a function with a slice of numbers and a bool hands back, its capacity, too. -/
def ResC (ok : Bool) (xs : List Int) (w : World) (e : Ending) (w' : World) : Prop :=
  ∃ A c, xs.length ≤ c ∧ e = .returned (.tuple #[.slice A xs.length c, .bool ok]) ∧ Own w' w.heap.size w'.heap.size A (i64s xs) ∧ Below w.heap.size w w'
theorem resC_nil {ok : Bool} {w : World} {e : Ending} {w' : World} (h : ResI ok [] w e w') : ResC ok [] w e w' := by
  obtain ⟨A, c, he, ho, hb⟩ := h
  exact ⟨A, c, Nat.zero_le _, he, ho, hb⟩
end Go.Proofs.Ytkhjeleoppdjgac
