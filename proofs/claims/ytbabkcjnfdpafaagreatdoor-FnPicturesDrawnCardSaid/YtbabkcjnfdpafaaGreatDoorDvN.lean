/- Chapter 7: LeastPicture, by the program. -/
import Derived.Test.YtbabkcjnfdpafaaGreatDoorMa
import Derived.Test.YtbabkcjnfdpafaaGreatDoorDuW
import Derived.Test.YtbabkcjnfdpafaaGreatDoorDuO
import Derived.Deep.RegionHeld3
namespace Go.Proofs.YtbabkcjnfdpafaaGreatDoor
open Go.ChangeShapes Go.WideShapes Go.ChangeAt Go.RowKit Go.Maps

theorem bt_toL (l : List UInt8) : (bt l).toList = l := by
  have h : (bt l).toList = (bt l).data.toList := ByteArray.toList_eq _
  rw [h]
  rfl
theorem run_min2 (P : Program) (a b : List UInt8) (W : World) : (Builtin.min2 (.string (bt a)) (.string (bt b))).run P W = .ok (.string (bt (mn a b))) W := by
  rw [← mn_other]
  simp only [Builtin.min2, Op.stringOp, bt_toL]
  cases h : (Op.bytesLess a b || a == b) <;> simp [asBool]
theorem run_min3 (P : Program) (ts : Array TypeId) (t : TypeId) (a b c : List UInt8) (W : World) : (Builtin.min_ ts t #[.string (bt a), .string (bt b), .string (bt c)]).run P W = .ok (.string (bt (mn (mn a b) c))) W := by
  simp [Builtin.min_, run_min2]
theorem cells_no {w : World} {R : Nat} {cs : Array Value} {t : TypeId} {fr : Nat × Nat} (h : w.heap[R]? = some (.cells cs t fr)) : ∀ c S, Ds w c S → R ≠ c := by
  rintro c S ⟨D, ⟨es, clock, hh, _⟩, _⟩ rfl
  rw [h] at hh
  cases hh
theorem heap_set1 {W : World} {R o : Nat} {cs : Array Value} {t : TypeId} {fr : Nat × Nat} (h : W.heap[R]? = some (.cells cs t fr)) (v : Value) :
    (W.setCell ⟨R, o, none⟩ v).heap[R]? = some (.cells (cs.setIfInBounds o v) t fr) := by
  simp [World.setCell, Array.getElem?_modify, h]
theorem heap_set3 {W : World} {R : Nat} {a b c : Value} {t : TypeId} {fr : Nat × Nat} (h : W.heap[R]? = some (.cells #[a, b, c] t fr)) (p q r : Value) :
    (((W.setCell ⟨R, 0, none⟩ p).setCell ⟨R, 1, none⟩ q).setCell ⟨R, 2, none⟩ r).heap[R]? = some (.cells #[p, q, r] t fr) :=
  heap_set1 (heap_set1 (heap_set1 h p) q) r
theorem three {V : World} {k : Nat} {a b c : Value} {t : TypeId} {f : Nat × Nat} (h : V.heap[k]? = some (.cells #[a, b, c] t f)) :
    V.cell? ⟨k, 0, none⟩ = some a ∧ V.cell? ⟨k, 1, none⟩ = some b ∧ V.cell? ⟨k, 2, none⟩ = some c := ⟨Lib.cell_of_heap h 0, Lib.cell_of_heap h 1, Lib.cell_of_heap h 2⟩
structure Okp (q : Pc) : Prop where
  w0 : 1 ≤ q.1
  w1 : q.1 ≤ 24
  h0 : 1 ≤ q.2.1
  h1 : q.2.1 ≤ 24
  bd : Bd q.1 q.2.1 q.2.2
theorem Okp.trn {q : Pc} (h : Okp q) : Okp (trn q) := ⟨h.h0, h.h1, h.w0, h.w1, turn_bd h.bd⟩
theorem Okp.itr {q : Pc} (h : Okp q) : ∀ k, Okp (itr q k)
  | 0 => h
  | k + 1 => (h.itr k).trn
/-- A picture's fields. -/
abbrev fld (q : Pc) (c : Nat) : Array Value := #[.int .i64 (q.1 : Int), .int .i64 (q.2.1 : Int), .map (some c)]
end Go.Proofs.YtbabkcjnfdpafaaGreatDoor
