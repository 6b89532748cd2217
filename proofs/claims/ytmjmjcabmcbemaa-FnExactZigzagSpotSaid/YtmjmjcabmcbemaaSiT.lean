/- Chapter 6: the program's small functions: sizes, vectors, bounds. -/
import Derived.Test.YtmjmjcabmcbemaaSiS
import Derived.Test.YtmjmjcabmcbemaaSiA
import Derived.Test.YtmjmjcabmcbemaaRuA
import Derived.Test.YtmjmjcabmcbemaaImC
import Derived.Deep.RegionHeld3
import Derived.BigRegion
namespace Go.Proofs.Ytmjmjcabmcbemaa
open Go.RowKit

theorem agg2 {a b c d : Int} (h : a = c) (g : b = d) : Ending.returned (.agg #[.int .i64 a, .int .i64 b]) = .returned (.agg #[.int .i64 c, .int .i64 d]) := by rw [h, g]
theorem bl2 (w : World) (o p : Obj) : Below w.heap.size w ((w.alloc o).alloc p) := ((Below.refl _ _).alloc (Nat.le_refl _) _).alloc (by simp) _
theorem bl3 (w : World) (o p q : Obj) : Below w.heap.size w (((w.alloc o).alloc p).alloc q) := (bl2 w o p).alloc (by simp; omega) _
/-- A box of two numbers that was made last stands behind a call. -/
theorem kept2 {W w1 : World} {a b : Value} {t R : Nat} (hb : Below (W.alloc (.cells #[a, b] t)).heap.size (W.alloc (.cells #[a, b] t)) w1) (hR : R = W.heap.size) :
    w1.cell? ⟨R, 0, none⟩ = some a ∧ w1.frozen? ⟨R, 0, none⟩ = false ∧ w1.cell? ⟨R, 1, none⟩ = some b ∧ w1.frozen? ⟨R, 1, none⟩ = false ∧ R < w1.heap.size := by
  subst hR
  have hz := hb.size
  simp at hz
  exact ⟨(hb.cell (p := ⟨W.heap.size, 0, none⟩) (by simp)).trans (by simp [go_sem]), (hb.frozen (p := ⟨W.heap.size, 0, none⟩) (by simp)).trans (by simp [go_sem]),
    (hb.cell (p := ⟨W.heap.size, 1, none⟩) (by simp)).trans (by simp [go_sem]), (hb.frozen (p := ⟨W.heap.size, 1, none⟩) (by simp)).trans (by simp [go_sem]), by omega⟩
theorem put2 {W : World} {R : Nat} {a b : Value} (c0 : W.cell? ⟨R, 0, none⟩ = some a) (c1 : W.cell? ⟨R, 1, none⟩ = some b) (p q : Value) :
    ((W.setCell ⟨R, 0, none⟩ p).setCell ⟨R, 1, none⟩ q).cell? ⟨R, 0, none⟩ = some p ∧ ((W.setCell ⟨R, 0, none⟩ p).setCell ⟨R, 1, none⟩ q).cell? ⟨R, 1, none⟩ = some q := by
  constructor
  · rw [World.cell?_setCell_other _ _ _ _ (by intro e; simp only [Addr.mk.injEq] at e; omega)]
    exact World.cell?_setCell_same W _ _ c0
  · exact World.cell?_setCell_same _ _ _ ((World.cell?_setCell_other W _ _ _ (by intro e; simp only [Addr.mk.injEq] at e; omega)).trans c1)
/-- What a step is asked for that is made k times. -/
structure Led (x y u v k : Int) : Prop where
  x0 : -1000000000 ≤ x
  x1 : x ≤ 1000000000
  y0 : -1000000000 ≤ y
  y1 : y ≤ 1000000000
  a0 : -1000000000 ≤ k * u
  a1 : k * u ≤ 1000000000
  b0 : -1000000000 ≤ k * v
  b1 : k * v ≤ 1000000000
theorem led_small (x y u v k : Int) (x0 : -1000000000 ≤ x) (x1 : x ≤ 1000000000) (y0 : -1000000000 ≤ y) (y1 : y ≤ 1000000000) (u0 : -1 ≤ u) (u1 : u ≤ 1) (v0 : -1 ≤ v) (v1 : v ≤ 1) (k0 : -1000000000 ≤ k) (k1 : k ≤ 1000000000) : Led x y u v k := by
  have hu : u = -1 ∨ u = 0 ∨ u = 1 := by omega
  have hv : v = -1 ∨ v = 0 ∨ v = 1 := by omega
  refine ⟨x0, x1, y0, y1, ?_, ?_, ?_, ?_⟩
  · rcases hu with rfl | rfl | rfl <;> omega
  · rcases hu with rfl | rfl | rfl <;> omega
  · rcases hv with rfl | rfl | rfl <;> omega
  · rcases hv with rfl | rfl | rfl <;> omega
end Go.Proofs.Ytmjmjcabmcbemaa
