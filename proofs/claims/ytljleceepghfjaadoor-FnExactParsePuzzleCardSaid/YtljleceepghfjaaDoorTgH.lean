/- Chapter 9, by the specification: DropClue. -/
import Derived.Test.YtljleceepghfjaaDoorTgG
namespace Go.Proofs.YtljleceepghfjaaDoor
open Go.ChangeShapes Go.WideShapes Go.ChangeAt Go.RowKit

/-- The room of an answer that is a puzzle. -/
def Rm (w : World) (Q : Nat) : Prop := w.cell? ⟨Q, 0, none⟩ = some (.int .i64 0) ∧ w.cell? ⟨Q, 1, none⟩ = some (.slice none 0 0) ∧ w.frozen? ⟨Q, 0, none⟩ = false ∧ w.frozen? ⟨Q, 1, none⟩ = false
theorem Rm.new (w : World) (t : TypeId) : Rm (w.alloc (.cells #[.int .i64 0, .slice none 0 0] t)) w.heap.size := ⟨by simp [go_sem], by simp [go_sem], by simp [go_sem], by simp [go_sem]⟩
theorem Rm.below {w w' : World} {Q B : Nat} (h : Rm w Q) (hb : Below B w w') (hB : Q + 1 ≤ B) : Rm w' Q :=
  ⟨(hb.cell (p := ⟨Q, 0, none⟩) hB).trans h.1, (hb.cell (p := ⟨Q, 1, none⟩) hB).trans h.2.1, (hb.frozen (p := ⟨Q, 0, none⟩) hB).trans h.2.2.1, (hb.frozen (p := ⟨Q, 1, none⟩) hB).trans h.2.2.2⟩
theorem set2_size9 (w : World) (Q : Nat) (u v : Value) : ((w.setCell ⟨Q, 0, none⟩ u).setCell ⟨Q, 1, none⟩ v).heap.size = w.heap.size := by simp [World.setCell]
theorem set2_below9 {B : Nat} {w0 w : World} {Q : Nat} (h : Below B w0 w) (hQ : B ≤ Q) (u v : Value) : Below B w0 ((w.setCell ⟨Q, 0, none⟩ u).setCell ⟨Q, 1, none⟩ v) :=
  (h.setCell (p := ⟨Q, 0, none⟩) hQ u).setCell (p := ⟨Q, 1, none⟩) hQ v
theorem own_far9 {w : World} {lo hi Q : Nat} {A : Option Addr} {cs : List Value} (h : Own w lo hi A cs) (hQ : Q < lo) (u v : Value) : Own ((w.setCell ⟨Q, 0, none⟩ u).setCell ⟨Q, 1, none⟩ v) lo hi A cs :=
  own_set9 (own_set9 h (by show Q < lo; exact hQ)) (by show Q < lo; exact hQ)
/-- The box of the argument and the room of the answer, behind the entry. -/
theorem entry9 (w : World) (m : Int) (A : Option Addr) (n c : Nat) (t u : TypeId) :
    Bx ((w.alloc (.cells #[.int .i64 m, .slice A n c] t)).alloc (.cells #[.int .i64 0, .slice none 0 0] u)) w.heap.size m A n c ∧ Rm ((w.alloc (.cells #[.int .i64 m, .slice A n c] t)).alloc (.cells #[.int .i64 0, .slice none 0 0] u)) (w.heap.size + 1) ∧
    Below w.heap.size w ((w.alloc (.cells #[.int .i64 m, .slice A n c] t)).alloc (.cells #[.int .i64 0, .slice none 0 0] u)) ∧ ((w.alloc (.cells #[.int .i64 m, .slice A n c] t)).alloc (.cells #[.int .i64 0, .slice none 0 0] u)).heap.size = w.heap.size + 2 := by
  have z : (w.alloc (.cells #[.int .i64 m, .slice A n c] t)).heap.size = w.heap.size + 1 := by simp
  refine ⟨(Bx.new w m A n c t).below ((Below.refl _ _).alloc (Nat.le_refl _) _) (by rw [z]; exact Nat.le_refl _), ?_, ((Below.refl _ _).alloc (Nat.le_refl _) _).alloc (by simp) _, by simp⟩
  have h := Rm.new (w.alloc (.cells #[.int .i64 m, .slice A n c] t)) u
  rw [z] at h
  exact h
end Go.Proofs.YtljleceepghfjaaDoor
