/- Chapter 9: the frame of the law IsPuzzle. -/
import Derived.Test.YtljleceepghfjaaDoorTfH
import Derived.Deep.RegionHeld3
namespace Go.Proofs.YtljleceepghfjaaDoor
open Go.ChangeShapes Go.WideShapes Go.ChangeAt Go.RowKit

theorem rd_up9 {w w' : World} {A : Option Addr} {cs : List Value} (h : Rd w w.heap.size A cs) (hb : Below w.heap.size w w') : Rd w' w'.heap.size A cs := fun hn => by
  obtain ⟨ad, e1, e2, e3⟩ := (h.below hb (Nat.le_refl _)) hn
  exact ⟨ad, e1, Nat.lt_of_lt_of_le e2 hb.size, e3⟩
/-- The cells of the puzzle that is handed in. -/
def Arg9 (w : World) (Q : Nat) (m : Int) (A : Option Addr) (n c : Nat) : Prop := w.cell? ⟨Q, 0, none⟩ = some (.int .i64 m) ∧ w.cell? ⟨Q, 1, none⟩ = some (.slice A n c) ∧ Q < w.heap.size
theorem Arg9.below {w w' : World} {Q B : Nat} {m : Int} {A : Option Addr} {n c : Nat} (h : Arg9 w Q m A n c) (hb : Below B w w') (hB : w.heap.size ≤ B) : Arg9 w' Q m A n c :=
  ⟨(hb.cell (p := ⟨Q, 0, none⟩) (Nat.lt_of_lt_of_le h.2.2 hB)).trans h.1, (hb.cell (p := ⟨Q, 1, none⟩) (Nat.lt_of_lt_of_le h.2.2 hB)).trans h.2.1, Nat.lt_of_lt_of_le h.2.2 hb.size⟩
theorem Arg9.new (w : World) (m : Int) (A : Option Addr) (n c : Nat) (t : TypeId) : Arg9 (w.alloc (.cells #[.int .i64 m, .slice A n c] t)) w.heap.size m A n c :=
  ⟨by simp [go_sem], by simp [go_sem], by simp⟩
end Go.Proofs.YtljleceepghfjaaDoor
