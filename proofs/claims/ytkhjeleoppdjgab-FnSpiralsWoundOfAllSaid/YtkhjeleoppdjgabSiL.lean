/- Chapter 6: the specification's numbers of the hexagon spiral. -/
import Derived.Test.YtkhjeleoppdjgabSiK
namespace Go.Proofs.Ytkhjeleoppdjgab
open Go.ChangeShapes Go.WideShapes Go.ChangeAt Go.RowKit

/-- The memory of the search along the sides: the argument's box, the spot's box, the steps. -/
structure HexV (w wr : World) (R hi : Nat) (A : Option Addr) (x y a b : Int) : Prop where
  r0 : wr.cell? ⟨w.heap.size, 0, none⟩ = some (.int .i64 x)
  r1 : wr.cell? ⟨w.heap.size, 1, none⟩ = some (.int .i64 y)
  c0 : wr.cell? ⟨R, 0, none⟩ = some (.int .i64 a)
  c1 : wr.cell? ⟨R, 1, none⟩ = some (.int .i64 b)
  f0 : wr.frozen? ⟨R, 0, none⟩ = false
  f1 : wr.frozen? ⟨R, 1, none⟩ = false
  own : Own wr (R + 1) hi A (prs six)
  hi : hi ≤ wr.heap.size
  z : R + 1 ≤ wr.heap.size
  zr : w.heap.size < R
  below : Below w.heap.size w wr
theorem HexV.next {w wr : World} {R hi : Nat} {A : Option Addr} {x y a b : Int} (h : HexV w wr R hi A x y a b) (p q : Int) (o : Obj) :
    HexV w (((wr.setCell ⟨R, 0, none⟩ (.int .i64 p)).setCell ⟨R, 1, none⟩ (.int .i64 q)).alloc o) R hi A x y p q := by
  have hs := hset_two (.int .i64 p) (.int .i64 q) h.c0 h.c1
  have z := h.z
  have zr := h.zr
  have hz : ((wr.setCell ⟨R, 0, none⟩ (.int .i64 p)).setCell ⟨R, 1, none⟩ (.int .i64 q)).heap.size = wr.heap.size := by simp
  have hbl : Below ((wr.setCell ⟨R, 0, none⟩ (.int .i64 p)).setCell ⟨R, 1, none⟩ (.int .i64 q)).heap.size _ (((wr.setCell ⟨R, 0, none⟩ (.int .i64 p)).setCell ⟨R, 1, none⟩ (.int .i64 q)).alloc o) := (Below.refl _ _).alloc (Nat.le_refl _) _
  obtain ⟨bc, bf⟩ := bcell hbl
  have hi2 := h.hi
  refine ⟨?_, ?_, ?_, ?_, ?_, ?_, ?_, ?_, ?_, zr, ?_⟩
  · rw [bc _ _ (by omega), hset_far _ _ _ (by omega)]; exact h.r0
  · rw [bc _ _ (by omega), hset_far _ _ _ (by omega)]; exact h.r1
  · rw [bc _ _ (by omega)]; exact hs.1
  · rw [bc _ _ (by omega)]; exact hs.2
  · rw [bf _ _ (by omega), World.frozen?_setCell, World.frozen?_setCell]; exact h.f0
  · rw [bf _ _ (by omega), World.frozen?_setCell, World.frozen?_setCell]; exact h.f1
  · exact (hset_own h.own (by omega) _ _).below hbl (by omega)
  · rw [World.size_alloc]; omega
  · rw [World.size_alloc]; omega
  · exact ((h.below.setCell (by simp; omega) _).setCell (by simp; omega) _).alloc (by omega) _
theorem hat_inj {r k x y : Int} (h1 : 1 ≤ r) (k0 : 1 ≤ k) (k1 : k ≤ 6 * r) : ((hat r k).1 = x ∧ (hat r k).2 = y) → k = hoK r x y := by
  rintro ⟨rfl, rfl⟩
  exact (hat_on h1 k0 k1).symm
/-- Where the search stands: the place K is not yet reached. -/
structure Seek (r K : Int) (x y : Int) : Prop where
  r1 : 1 ≤ r
  rb : r ≤ 600
  K0 : 1 ≤ K
  K1 : K ≤ 6 * r
  at_ : hat r K = (x, y)
  only : ∀ k, 1 ≤ k → k ≤ 6 * r → (hat r k).1 = x → (hat r k).2 = y → k = K
theorem seek_of {x y : Int} (h : 1 ≤ hsz x y) (hb : hsz x y ≤ 600) : Seek (hsz x y) (hoK (hsz x y) x y) x y := by
  obtain ⟨b0, b1⟩ := hoK_bds (x := x) (y := y) rfl h
  exact ⟨h, hb, b0, b1, hon_at rfl h, fun k k0 k1 e1 e2 => hat_inj h k0 k1 ⟨e1, e2⟩⟩
end Go.Proofs.Ytkhjeleoppdjgab
