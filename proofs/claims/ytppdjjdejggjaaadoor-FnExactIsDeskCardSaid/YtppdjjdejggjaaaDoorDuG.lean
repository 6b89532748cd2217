/- Chapter 7: the program's sets of dots moved by whatever function moves places apart. -/
import Derived.Test.YtppdjjdejggjaaaDoorDuD
namespace Go.Proofs.YtppdjjdejggjaaaDoor
open Go.ChangeShapes Go.WideShapes Go.ChangeAt Go.RowKit Go.Maps

/-- What is moved already, by the places to which dots are moved: g tells whence. -/
def mvL (S L : Int → Int → Bool) (g1 g2 : Int → Int → Int) (u v : Int) : Bool := S (g1 u v) (g2 u v) && !L (g1 u v) (g2 u v)
theorem mv_start {S : Int → Int → Bool} {g1 g2 : Int → Int → Int} (u v : Int) : false = mvL S S g1 g2 u v := by
  unfold mvL
  cases S (g1 u v) (g2 u v) <;> rfl
theorem mv_end {S L : Int → Int → Bool} {g1 g2 : Int → Int → Int} (h : ∀ x y, L x y = false) (u v : Int) : mvL S L g1 g2 u v = S (g1 u v) (g2 u v) := by
  unfold mvL
  rw [h]
  simp
theorem mv_step {S L : Int → Int → Bool} {g1 g2 : Int → Int → Int} {x y p q : Int} (hS : S x y = true) (hg : ∀ u v, (u = p ∧ v = q) ↔ (g1 u v = x ∧ g2 u v = y)) (u v : Int) : aS (mvL S L g1 g2) p q u v = mvL S (rS L x y) g1 g2 u v := by
  unfold aS mvL rS
  by_cases e : u = p ∧ v = q
  · obtain ⟨a, b⟩ := (hg u v).1 e
    obtain ⟨rfl, rfl⟩ := e
    rw [a, b, hS]
    simp
  · rw [pick_at e, pick_at (fun e2 => e ((hg u v).2 e2))]
    simp
/-- A function value that moves the dots of S by f, in worlds that have grown from w. -/
structure Mv (F K : Nat) (S : Int → Int → Bool) (f1 f2 g1 g2 : Int → Int → Int) (w : World) : Prop where
  cf : ∀ (args : Array Value) (W : World), (callFunc F args).run Tryd.prog W = .ok (.enter F args) W
  mv : ∀ x y W, S x y = true → w.grownBy W none → Calls Tryd.prog F #[.agg #[.int .i64 x, .int .i64 y], .pointer (some ⟨K, 0, none⟩)] W fun e w' => e = .returned (.agg #[.int .i64 (f1 x y), .int .i64 (f2 x y)]) ∧ Below W.heap.size W w'
  inv : ∀ x y, S x y = true → ∀ u v, (u = f1 x y ∧ v = f2 x y) ↔ (g1 u v = x ∧ g2 u v = y)
  bd : ∀ x y, S x y = true → 0 ≤ f1 x y ∧ f1 x y < 100 ∧ 0 ≤ f2 x y ∧ f2 x y < 100
end Go.Proofs.YtppdjjdejggjaaaDoor
