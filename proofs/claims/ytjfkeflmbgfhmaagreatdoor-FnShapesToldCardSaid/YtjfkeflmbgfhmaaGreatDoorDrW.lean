/- Bytes that are carried from call to call. No condition. -/
import Derived.Test.YtjfkeflmbgfhmaaGreatDoorDrD
namespace Go.Proofs.YtjfkeflmbgfhmaaGreatDoor
open Go.RowKit
theorem Bys.on {w w' : World} {A : Option Addr} {n : Nat} (h : Bys w A n) (hb : Below w.heap.size w w') : Bys w' A n := h.below hb (Nat.le_refl _)
/-- A cursor that lies as it lay behind a call that turns no old memory. -/
theorem Cur.on {w w' : World} {B r : Nat} {A : Option Addr} {n c k : Nat} (h : Cur w B r A n c k) (hb : Below w.heap.size w w') : Cur w' B r A n c k := by
  obtain ⟨lo, lt, c0, ⟨i, hi, c1⟩, ⟨s, s0, s1, c2⟩, f1, f2, bs⟩ := h
  refine ⟨lo, Nat.lt_of_lt_of_le lt hb.size, ?_, ⟨i, hi, ?_⟩, ⟨s, s0, s1, ?_⟩, ?_, ?_, fun j hj => ?_⟩
  · rw [hb.cell (p := ⟨r, 0, none⟩) lt]; exact c0
  · rw [hb.cell (p := ⟨r, 1, none⟩) lt]; exact c1
  · rw [hb.cell (p := ⟨r, 2, none⟩) lt]; exact c2
  · rw [hb.frozen (p := ⟨r, 1, none⟩) lt]; exact f1
  · rw [hb.frozen (p := ⟨r, 2, none⟩) lt]; exact f2
  · obtain ⟨a, b, e, hg, b0, b1, hc⟩ := bs j hj
    exact ⟨a, b, e, hg, b0, b1, by rw [hb.cell (p := a.add j) (by rw [addr_blk]; exact Nat.lt_trans (Nat.lt_of_lt_of_le hg lo) lt)]; exact hc⟩
theorem grown_below {w w1 w' : World} {r : Nat} (h : w.grownBy w1 (some r)) (hb : Below w1.heap.size w1 w') : w.grownBy w' (some r) :=
  ⟨hb.os.trans h.os, hb.tape.trans h.tape, hb.output.trans h.output, Nat.le_trans h.size hb.size, fun i hi hr => (hb.block i (Nat.lt_of_lt_of_le hi h.size)).trans (h.block i hi hr)⟩
end Go.Proofs.YtjfkeflmbgfhmaaGreatDoor
