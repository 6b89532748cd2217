/- The cursor's calls of chapters 1 and 3: sides, places, numbers, layers. Whatever the bytes, some numbers come out, and nothing but the cursor's box changes. -/
import Derived.Test.YtejjgpmdnnogbaaDoorDrB
import Derived.Test.YtejjgpmdnnogbaaDoorSpA
import Derived.Deep.Cut
namespace Go.Proofs.YtejjgpmdnnogbaaDoor
open Go.RowKit

theorem Cur.alloc {w : World} {B r : Nat} {A : Option Addr} {n c k : Nat} (h : Cur w B r A n c k) (hB : ∀ g, g < B → g < w.heap.size) (o : Obj) : Cur (w.alloc o) B r A n c k := by
  obtain ⟨lo, lt, c0, ⟨i, hi, c1⟩, ⟨s, s0, s1, c2⟩, f1, f2, bs⟩ := h
  have hb := (Below.refl w.heap.size w).alloc (Nat.le_refl _) o
  refine ⟨lo, Nat.lt_of_lt_of_le lt hb.size, ?_, ⟨i, hi, ?_⟩, ⟨s, s0, s1, ?_⟩, ?_, ?_, fun j hj => ?_⟩
  · rw [hb.cell (p := ⟨r, 0, none⟩) lt]; exact c0
  · rw [hb.cell (p := ⟨r, 1, none⟩) lt]; exact c1
  · rw [hb.cell (p := ⟨r, 2, none⟩) lt]; exact c2
  · rw [hb.frozen (p := ⟨r, 1, none⟩) lt]; exact f1
  · rw [hb.frozen (p := ⟨r, 2, none⟩) lt]; exact f2
  · obtain ⟨a, b, e, hg, b0, b1, hc⟩ := bs j hj
    exact ⟨a, b, e, hg, b0, b1, by rw [hb.cell (p := a.add j) (by rw [addr_blk]; exact hB _ hg)]; exact hc⟩
theorem Cur.alloc' {w : World} {B r : Nat} {A : Option Addr} {n c k : Nat} (h : Cur w B r A n c k) (o : Obj) : Cur (w.alloc o) B r A n c k :=
  h.alloc (fun g hg => by have := h.lo; have := h.lt; omega) o
/-- A list that has just been made. -/
theorem own_new (w : World) (xs : List Int) (t : TypeId) : Own (w.alloc (.cells (i64s xs).toArray t)) w.heap.size (w.alloc (.cells (i64s xs).toArray t)).heap.size (some ⟨w.heap.size, 0, none⟩) (i64s xs) := fun hn => by
  refine ⟨w.heap.size, 0, rfl, Nat.le_refl _, by simp, fun j u hu => ?_⟩
  have hj : j < (i64s xs).length := (List.getElem?_eq_some_iff.1 hu).1
  constructor
  · simp [go_sem]
    simpa using hu
  · simp [go_sem]
theorem drawn_trans {w w1 w2 : World} {B r : Nat} {A : Option Addr} {n c k k' : Nat} (h1 : w.grownBy w1 (some r)) (h2 : Drawn w1 w2 B r A n c k) (hk : k ≤ k') : Drawn w w2 B r A n c k' :=
  ⟨h2.cur.up hk, grown_trans h1 h2.grown⟩
theorem grown_alloc {w w1 : World} {r : Nat} (h : w.grownBy w1 (some r)) (o : Obj) : w.grownBy (w1.alloc o) (some r) := grown_trans h (World.grownBy_alloc w1 o _)

theorem half_bds (y z : Int) (y0 : 0 ≤ y) (y1 : y < 3) (z0 : 0 ≤ z) (z1 : z < 20) : 0 ≤ y / 2 * z ∧ y / 2 * z ≤ 19 := by
  rcases (show y / 2 = 0 ∨ y / 2 = 1 by omega) with h | h <;> rw [h] <;> omega
theorem num_mid (s k : Int) (h1 : 3 ≤ s) (h2 : s ≤ 24) (h3 : -3000000 ≤ k) (h4 : k ≤ 3000000) : 0 ≤ num s k ∧ num s k ≤ 400000000000000 := by
  have a := num_nn s k h1
  have b := num_twice s k
  obtain ⟨c0, c1, c2, c3, c4, c5, c6⟩ := num_bds s k h1 h2 h3 h4
  omega

end Go.Proofs.YtejjgpmdnnogbaaDoor
