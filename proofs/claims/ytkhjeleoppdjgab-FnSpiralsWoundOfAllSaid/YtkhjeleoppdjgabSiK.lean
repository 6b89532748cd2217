/- Chapter 6: the specification's spots of the hexagon spiral. -/
import Derived.Test.YtkhjeleoppdjgabSiH
namespace Go.Proofs.Ytkhjeleoppdjgab
open Go.ChangeShapes Go.WideShapes Go.ChangeAt Go.RowKit

/-- The six steps along the sides of a ring. -/
def six : List (Int × Int) := [(0, 1), (-1, 1), (-1, 0), (0, -1), (1, -1), (1, 0)]
theorem six_len : six.length = 6 := rfl
theorem six_b : ∀ (i : Nat) (h : i < 6), -1 ≤ (six[i]'h).1 ∧ (six[i]'h).1 ≤ 1 ∧ -1 ≤ (six[i]'h).2 ∧ (six[i]'h).2 ≤ 1 := by decide
theorem hat_side (r m : Int) (i : Nat) (hi : i < 6) (h1 : 1 ≤ r) (m0 : 0 ≤ m) (m1 : m ≤ r) : hat r ((i : Int) * r + m) = ((hat r ((i : Int) * r)).1 + m * (six[i]'hi).1, (hat r ((i : Int) * r)).2 + m * (six[i]'hi).2) := by
  have hc : i = 0 ∨ i = 1 ∨ i = 2 ∨ i = 3 ∨ i = 4 ∨ i = 5 := by omega
  rcases hc with rfl | rfl | rfl | rfl | rfl | rfl
  all_goals simp only [six, List.getElem_cons_zero, List.getElem_cons_succ]
  · rcases hat_cases (k := ((0 : Nat) : Int) * r + m) h1 with ⟨a, e⟩ | ⟨a, b, e⟩ | ⟨a, b, e⟩ | ⟨a, b, e⟩ | ⟨a, b, e⟩ | ⟨a, e⟩ <;> rw [e] <;> rcases hat_cases (k := ((0 : Nat) : Int) * r) h1 with ⟨a', e'⟩ | ⟨a', b', e'⟩ | ⟨a', b', e'⟩ | ⟨a', b', e'⟩ | ⟨a', b', e'⟩ | ⟨a', e'⟩ <;> rw [e'] <;> first | (exfalso; omega) | (apply pair_eq <;> dsimp only <;> omega)
  · rcases hat_cases (k := ((1 : Nat) : Int) * r + m) h1 with ⟨a, e⟩ | ⟨a, b, e⟩ | ⟨a, b, e⟩ | ⟨a, b, e⟩ | ⟨a, b, e⟩ | ⟨a, e⟩ <;> rw [e] <;> rcases hat_cases (k := ((1 : Nat) : Int) * r) h1 with ⟨a', e'⟩ | ⟨a', b', e'⟩ | ⟨a', b', e'⟩ | ⟨a', b', e'⟩ | ⟨a', b', e'⟩ | ⟨a', e'⟩ <;> rw [e'] <;> first | (exfalso; omega) | (apply pair_eq <;> dsimp only <;> omega)
  · rcases hat_cases (k := ((2 : Nat) : Int) * r + m) h1 with ⟨a, e⟩ | ⟨a, b, e⟩ | ⟨a, b, e⟩ | ⟨a, b, e⟩ | ⟨a, b, e⟩ | ⟨a, e⟩ <;> rw [e] <;> rcases hat_cases (k := ((2 : Nat) : Int) * r) h1 with ⟨a', e'⟩ | ⟨a', b', e'⟩ | ⟨a', b', e'⟩ | ⟨a', b', e'⟩ | ⟨a', b', e'⟩ | ⟨a', e'⟩ <;> rw [e'] <;> first | (exfalso; omega) | (apply pair_eq <;> dsimp only <;> omega)
  · rcases hat_cases (k := ((3 : Nat) : Int) * r + m) h1 with ⟨a, e⟩ | ⟨a, b, e⟩ | ⟨a, b, e⟩ | ⟨a, b, e⟩ | ⟨a, b, e⟩ | ⟨a, e⟩ <;> rw [e] <;> rcases hat_cases (k := ((3 : Nat) : Int) * r) h1 with ⟨a', e'⟩ | ⟨a', b', e'⟩ | ⟨a', b', e'⟩ | ⟨a', b', e'⟩ | ⟨a', b', e'⟩ | ⟨a', e'⟩ <;> rw [e'] <;> first | (exfalso; omega) | (apply pair_eq <;> dsimp only <;> omega)
  · rcases hat_cases (k := ((4 : Nat) : Int) * r + m) h1 with ⟨a, e⟩ | ⟨a, b, e⟩ | ⟨a, b, e⟩ | ⟨a, b, e⟩ | ⟨a, b, e⟩ | ⟨a, e⟩ <;> rw [e] <;> rcases hat_cases (k := ((4 : Nat) : Int) * r) h1 with ⟨a', e'⟩ | ⟨a', b', e'⟩ | ⟨a', b', e'⟩ | ⟨a', b', e'⟩ | ⟨a', b', e'⟩ | ⟨a', e'⟩ <;> rw [e'] <;> first | (exfalso; omega) | (apply pair_eq <;> dsimp only <;> omega)
  · rcases hat_cases (k := ((5 : Nat) : Int) * r + m) h1 with ⟨a, e⟩ | ⟨a, b, e⟩ | ⟨a, b, e⟩ | ⟨a, b, e⟩ | ⟨a, b, e⟩ | ⟨a, e⟩ <;> rw [e] <;> rcases hat_cases (k := ((5 : Nat) : Int) * r) h1 with ⟨a', e'⟩ | ⟨a', b', e'⟩ | ⟨a', b', e'⟩ | ⟨a', b', e'⟩ | ⟨a', b', e'⟩ | ⟨a', e'⟩ <;> rw [e'] <;> first | (exfalso; omega) | (apply pair_eq <;> dsimp only <;> omega)
/-- How far the i-th side leaves a walk of k steps, and where. -/
def hdone (r k : Int) (i : Nat) : Int := min k ((i : Int) * r)
def hP (r k : Int) (i : Nat) : Int × Int := hat r (hdone r k i)
def hN (r k : Int) (i : Nat) : Int := k - hdone r k i
theorem hN_b (r k : Int) (i : Nat) (h1 : 1 ≤ r) (k0 : 0 ≤ k) : 0 ≤ hN r k i ∧ hN r k i ≤ k := by
  have := Int.mul_nonneg (a := (i : Int)) (b := r) (by omega) (by omega)
  unfold hN hdone
  omega
theorem hdone_step (r k : Int) (i : Nat) (h1 : 1 ≤ r) : hdone r k (i + 1) = hdone r k i + min (hN r k i) r := by
  have e : ((i + 1 : Nat) : Int) * r = (i : Int) * r + r := by rw [show ((i + 1 : Nat) : Int) = (i : Int) + 1 by omega]; grind
  unfold hN hdone
  rw [e]
  omega
theorem hN_step (r k : Int) (i : Nat) (h1 : 1 ≤ r) : hN r k (i + 1) = hN r k i - min (hN r k i) r := by
  have h := hdone_step r k i h1
  have e : hN r k (i + 1) = k - hdone r k (i + 1) := rfl
  rw [e, h]
  have e2 : hN r k i = k - hdone r k i := rfl
  omega
theorem hP_step (r k : Int) (i : Nat) (hi : i < 6) (h1 : 1 ≤ r) (k0 : 0 ≤ k) : hP r k (i + 1) = ((hP r k i).1 + min (hN r k i) r * (six[i]'hi).1, (hP r k i).2 + min (hN r k i) r * (six[i]'hi).2) := by
  have hb := hN_b r k i h1 k0
  unfold hP
  rw [hdone_step r k i h1]
  rcases Int.lt_or_le k ((i : Int) * r) with h | h
  · have hz : hN r k i = 0 := by unfold hN hdone; omega
    rw [hz, show min 0 r = 0 by omega]
    simp
  · have hd : hdone r k i = (i : Int) * r := by unfold hdone; omega
    rw [hd]
    exact hat_side r _ i hi h1 (by omega) (by omega)
theorem hat_b {r k : Int} (h1 : 1 ≤ r) (k0 : 0 ≤ k) (k1 : k ≤ 6 * r) : -r ≤ (hat r k).1 ∧ (hat r k).1 ≤ r ∧ -r ≤ (hat r k).2 ∧ (hat r k).2 ≤ r := by
  rcases hat_cases (k := k) h1 with ⟨a, e⟩ | ⟨a, b, e⟩ | ⟨a, b, e⟩ | ⟨a, b, e⟩ | ⟨a, b, e⟩ | ⟨a, e⟩ <;> rw [e] <;> dsimp only <;> omega
theorem hP_b (r k : Int) (i : Nat) (h1 : 1 ≤ r) (k0 : 0 ≤ k) (k1 : k ≤ 6 * r) : -r ≤ (hP r k i).1 ∧ (hP r k i).1 ≤ r ∧ -r ≤ (hP r k i).2 ∧ (hP r k i).2 ≤ r := by
  have := Int.mul_nonneg (a := (i : Int)) (b := r) (by omega) (by omega)
  exact hat_b h1 (by unfold hdone; omega) (by unfold hdone; omega)
theorem hP_zero (r k : Int) (h1 : 1 ≤ r) (k0 : 0 ≤ k) : hP r k 0 = (r, -r) ∧ hN r k 0 = k := by
  have e : hdone r k 0 = 0 := by unfold hdone; simp; omega
  constructor
  · unfold hP
    rw [e]
    rcases hat_cases (k := 0) h1 with ⟨a, e⟩ | ⟨a, b, e⟩ | ⟨a, b, e⟩ | ⟨a, b, e⟩ | ⟨a, b, e⟩ | ⟨a, e⟩ <;> rw [e] <;> apply pair_eq <;> omega
  · unfold hN
    omega
theorem hP_six (r k : Int) (k1 : k ≤ 6 * r) : hP r k 6 = hat r k := by
  unfold hP hdone
  rw [show min k (((6 : Nat) : Int) * r) = k by omega]
theorem side_b (m s : Int) (m0 : 0 ≤ m) (m1 : m ≤ 2000) (s0 : -1 ≤ s) (s1 : s ≤ 1) : -2000 ≤ m * s ∧ m * s ≤ 2000 := by
  have h : s = -1 ∨ s = 0 ∨ s = 1 := by omega
  rcases h with rfl | rfl | rfl <;> omega
/-- Two cells of a box that are written. -/
theorem hset_two {W : World} {R : Nat} {u v : Value} (p q : Value) (c0 : W.cell? ⟨R, 0, none⟩ = some u) (c1 : W.cell? ⟨R, 1, none⟩ = some v) :
    ((W.setCell ⟨R, 0, none⟩ p).setCell ⟨R, 1, none⟩ q).cell? ⟨R, 0, none⟩ = some p ∧ ((W.setCell ⟨R, 0, none⟩ p).setCell ⟨R, 1, none⟩ q).cell? ⟨R, 1, none⟩ = some q := by
  refine ⟨?_, ?_⟩
  · rw [World.cell?_setCell_other _ _ _ _ (by intro e; simp only [Addr.mk.injEq] at e; omega)]
    exact World.cell?_setCell_same W _ _ c0
  · exact World.cell?_setCell_same _ _ _ ((World.cell?_setCell_other W _ _ _ (by intro e; simp only [Addr.mk.injEq] at e; omega)).trans c1)
theorem hset_far {W : World} {R Q : Nat} (o : Nat) (p q : Value) (h : Q ≠ R) : ((W.setCell ⟨R, 0, none⟩ p).setCell ⟨R, 1, none⟩ q).cell? ⟨Q, o, none⟩ = W.cell? ⟨Q, o, none⟩ := by
  rw [World.cell?_setCell_other _ _ _ _ (by intro e; simp only [Addr.mk.injEq] at e; omega), World.cell?_setCell_other _ _ _ _ (by intro e; simp only [Addr.mk.injEq] at e; omega)]
/-- The memory of the walk along the sides: the result's box, the spot's box, the steps. -/
structure HexW (w wr : World) (hi : Nat) (A : Option Addr) (a b : Int) : Prop where
  r0 : wr.cell? ⟨w.heap.size, 0, none⟩ = some (.int .i64 0)
  r1 : wr.cell? ⟨w.heap.size, 1, none⟩ = some (.int .i64 0)
  g0 : wr.frozen? ⟨w.heap.size, 0, none⟩ = false
  g1 : wr.frozen? ⟨w.heap.size, 1, none⟩ = false
  c0 : wr.cell? ⟨w.heap.size + 1, 0, none⟩ = some (.int .i64 a)
  c1 : wr.cell? ⟨w.heap.size + 1, 1, none⟩ = some (.int .i64 b)
  f0 : wr.frozen? ⟨w.heap.size + 1, 0, none⟩ = false
  f1 : wr.frozen? ⟨w.heap.size + 1, 1, none⟩ = false
  own : Own wr (w.heap.size + 2) hi A (prs six)
  hi : hi ≤ wr.heap.size
  z : w.heap.size + 2 ≤ wr.heap.size
  below : Below w.heap.size w wr
theorem hset_own {wr : World} {lo hi R : Nat} {A : Option Addr} {cs : List Value} (h : Own wr lo hi A cs) (hR : R < lo) (p q : Value) : Own ((wr.setCell ⟨R, 0, none⟩ p).setCell ⟨R, 1, none⟩ q) lo hi A cs := fun hn => by
  obtain ⟨g, o, e, h1, h2, hc⟩ := h hn
  refine ⟨g, o, e, h1, h2, fun j u hu => ?_⟩
  rw [hset_far _ _ _ (by omega), World.frozen?_setCell, World.frozen?_setCell]
  exact hc j u hu
theorem HexW.next {w wr : World} {hi : Nat} {A : Option Addr} {a b : Int} (h : HexW w wr hi A a b) (p q : Int) (o : Obj) :
    HexW w (((wr.setCell ⟨w.heap.size + 1, 0, none⟩ (.int .i64 p)).setCell ⟨w.heap.size + 1, 1, none⟩ (.int .i64 q)).alloc o) hi A p q := by
  have hs := hset_two (.int .i64 p) (.int .i64 q) h.c0 h.c1
  have z := h.z
  have hz : ((wr.setCell ⟨w.heap.size + 1, 0, none⟩ (.int .i64 p)).setCell ⟨w.heap.size + 1, 1, none⟩ (.int .i64 q)).heap.size = wr.heap.size := by simp
  have hbl : Below ((wr.setCell ⟨w.heap.size + 1, 0, none⟩ (.int .i64 p)).setCell ⟨w.heap.size + 1, 1, none⟩ (.int .i64 q)).heap.size _ (((wr.setCell ⟨w.heap.size + 1, 0, none⟩ (.int .i64 p)).setCell ⟨w.heap.size + 1, 1, none⟩ (.int .i64 q)).alloc o) := (Below.refl _ _).alloc (Nat.le_refl _) _
  obtain ⟨bc, bf⟩ := bcell hbl
  have hi2 := h.hi
  refine ⟨?_, ?_, ?_, ?_, ?_, ?_, ?_, ?_, ?_, ?_, ?_, ?_⟩
  · rw [bc _ _ (by omega), hset_far _ _ _ (by omega)]; exact h.r0
  · rw [bc _ _ (by omega), hset_far _ _ _ (by omega)]; exact h.r1
  · rw [bf _ _ (by omega), World.frozen?_setCell, World.frozen?_setCell]; exact h.g0
  · rw [bf _ _ (by omega), World.frozen?_setCell, World.frozen?_setCell]; exact h.g1
  · rw [bc _ _ (by omega)]; exact hs.1
  · rw [bc _ _ (by omega)]; exact hs.2
  · rw [bf _ _ (by omega), World.frozen?_setCell, World.frozen?_setCell]; exact h.f0
  · rw [bf _ _ (by omega), World.frozen?_setCell, World.frozen?_setCell]; exact h.f1
  · exact (hset_own h.own (by omega) _ _).below hbl (by omega)
  · rw [World.size_alloc]; omega
  · rw [World.size_alloc]; omega
  · exact ((h.below.setCell (by simp) _).setCell (by simp) _).alloc (by omega) _
end Go.Proofs.Ytkhjeleoppdjgab
