/- Chapter 7: the program's vectors: led by steps; the four places beside one. -/
import Derived.Test.YtppdjjdejggjaaaDoorDuB
import Derived.Deep.RegionHeld3
import Derived.Deep.AppendLies
import Derived.BigRegion
import Derived.Laws.EntriesVeiled
namespace Go.Proofs.YtppdjjdejggjaaaDoor
open Go.ChangeShapes Go.WideShapes Go.ChangeAt Go.RowKit Go.Maps

theorem infoVec : (Tryd.prog.info? 79).map (fun i => (i.zero, i.size, i.bytes)) = some (some (.agg #[.int .i64 0, .int .i64 0]), 2, 16) := by kernel_rfl
theorem dbl3 (w : World) (o p q : Obj) : Below w.heap.size w (((w.alloc o).alloc p).alloc q) := (((Below.refl _ _).alloc (Nat.le_refl _) _).alloc (by simp) _).alloc (by simp; omega) _
/-- The four steps, the four places beside one. -/
def stp : List (Int × Int) := [(1, 0), (0, 1), (-1, 0), (0, -1)]
def bsd (x y : Int) : List (Int × Int) := stp.map fun s => (x + s.1, y + s.2)
theorem bsd_len (x y : Int) : (bsd x y).length = 4 := rfl
/-- What a place is asked that is led by a vector a number of times, all small. -/
structure Sml (x y u v : Int) : Prop where
  x0 : -1000000 ≤ x
  x1 : x ≤ 1000000
  y0 : -1000000 ≤ y
  y1 : y ≤ 1000000
  u0 : -1000000 ≤ u
  u1 : u ≤ 1000000
  v0 : -1000000 ≤ v
  v1 : v ≤ 1000000
theorem cell_old {W : World} {p : Addr} {v : Value} (h : W.cell? p = some v) (o : Obj) : (W.alloc o).cell? p = some v := by
  rw [World.cell?_alloc_old _ _ _ (Nat.ne_of_lt (World.block_lt_of_cell? _ _ h))]
  exact h
theorem grown_refl (w : World) (row : Option Nat) : w.grownBy w row := ⟨rfl, rfl, rfl, Nat.le_refl _, fun _ _ _ => rfl⟩
theorem grown_tr {a b c : World} {row : Option Nat} (h : a.grownBy b row) (k : b.grownBy c row) : a.grownBy c row := h.andThen k fun _ e => Or.inr e
end Go.Proofs.YtppdjjdejggjaaaDoor
