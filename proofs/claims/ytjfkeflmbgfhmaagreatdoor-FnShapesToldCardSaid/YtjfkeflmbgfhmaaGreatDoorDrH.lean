/- The drawings of chapter 6: whatever the bytes (a million at most), numbers and spots come out, and no old memory changes. -/
import Derived.Test.YtjfkeflmbgfhmaaGreatDoorDrW
import Derived.Test.YtjfkeflmbgfhmaaGreatDoorAnW
namespace Go.Proofs.YtjfkeflmbgfhmaaGreatDoor
open Go.ChangeShapes Go.WideShapes Go.ChangeAt Go.RowKit

/-- A box of two numbers that is written at the end. -/
structure Spt (w : World) (R : Nat) : Prop where
  z : R < w.heap.size
  c0 : ∃ a : Int, w.cell? ⟨R, 0, none⟩ = some (.int .i64 a)
  c1 : ∃ a : Int, w.cell? ⟨R, 1, none⟩ = some (.int .i64 a)
  f0 : w.frozen? ⟨R, 0, none⟩ = false
  f1 : w.frozen? ⟨R, 1, none⟩ = false
theorem spt_new (w : World) (T : TypeId) : Spt (w.alloc (.cells #[.int .i64 0, .int .i64 0] T)) w.heap.size := ⟨by simp, ⟨0, by simp [go_sem]⟩, ⟨0, by simp [go_sem]⟩, by simp [go_sem], by simp [go_sem]⟩
theorem Spt.on {w w' : World} {R : Nat} (h : Spt w R) (hb : Below w.heap.size w w') : Spt w' R := by
  obtain ⟨z, ⟨a, c0⟩, ⟨b, c1⟩, f0, f1⟩ := h
  exact ⟨Nat.lt_of_lt_of_le z hb.size, ⟨a, (hb.cell (p := ⟨R, 0, none⟩) z).trans c0⟩, ⟨b, (hb.cell (p := ⟨R, 1, none⟩) z).trans c1⟩, (hb.frozen (p := ⟨R, 0, none⟩) z).trans f0, (hb.frozen (p := ⟨R, 1, none⟩) z).trans f1⟩
theorem Spt.grown {w w' : World} {R r : Nat} (h : Spt w R) (hg : w.grownBy w' (some r)) (hne : R ≠ r) : Spt w' R := by
  obtain ⟨z, ⟨a, c0⟩, ⟨b, c1⟩, f0, f1⟩ := h
  have hb := hg.block R z (by intro e; injection e with e; exact hne e)
  exact ⟨Nat.lt_of_lt_of_le z hg.size, ⟨a, (World.cell?_of_block (a := ⟨R, 0, none⟩) hb).trans c0⟩, ⟨b, (World.cell?_of_block (a := ⟨R, 1, none⟩) hb).trans c1⟩, (World.frozen?_of_block (a := ⟨R, 0, none⟩) hb).trans f0, (World.frozen?_of_block (a := ⟨R, 1, none⟩) hb).trans f1⟩
theorem grown_far {w w' : World} {r R : Nat} (h : w.grownBy w' (some r)) (hR : w.heap.size ≤ R) (o : Nat) (v : Value) : w.grownBy (w'.setCell ⟨R, o, none⟩ v) (some r) where
  os := h.os
  tape := h.tape
  output := h.output
  size := by simpa [World.setCell] using h.size
  block := fun i hi hr => by rw [← h.block i hi hr]; exact Below.heap_setCell _ _ _ _ (fun e => by have e : R = i := by first | exact e | exact e.symm
                                                                                                   omega)
theorem Cur.far {w : World} {B r R : Nat} {A : Option Addr} {n c k : Nat} (h : Cur w B r A n c k) (hne : R ≠ r) (hlo : B ≤ R) (o : Nat) (v : Value) : Cur (w.setCell ⟨R, o, none⟩ v) B r A n c k := by
  obtain ⟨lo, lt, c0, ⟨i, hi, c1⟩, ⟨s, s0, s1, c2⟩, f1, f2, bs⟩ := h
  have hb : ∀ g, g ≠ R → (w.setCell ⟨R, o, none⟩ v).heap[g]? = w.heap[g]? := fun g hg => Below.heap_setCell _ _ _ _ (fun e => by first | exact hg e | exact hg e.symm)
  have hr := hb r (fun e => hne e.symm)
  refine ⟨lo, by simpa [World.setCell] using lt, ?_, ⟨i, hi, ?_⟩, ⟨s, s0, s1, ?_⟩, ?_, ?_, fun j hj => ?_⟩
  · exact (World.cell?_of_block (a := ⟨r, 0, none⟩) hr).trans c0
  · exact (World.cell?_of_block (a := ⟨r, 1, none⟩) hr).trans c1
  · exact (World.cell?_of_block (a := ⟨r, 2, none⟩) hr).trans c2
  · exact (World.frozen?_of_block (a := ⟨r, 1, none⟩) hr).trans f1
  · exact (World.frozen?_of_block (a := ⟨r, 2, none⟩) hr).trans f2
  · obtain ⟨a, b, e, hg, b0, b1, hc⟩ := bs j hj
    exact ⟨a, b, e, hg, b0, b1, (World.cell?_of_block (a := a.add j) (by rw [addr_blk]; exact hb _ (by omega))).trans hc⟩

end Go.Proofs.YtjfkeflmbgfhmaaGreatDoor
