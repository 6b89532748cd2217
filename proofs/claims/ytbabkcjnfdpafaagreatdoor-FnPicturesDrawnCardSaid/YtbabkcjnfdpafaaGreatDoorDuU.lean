/- Chapter 7: the program's pictures with other dots, without borders. -/
import Derived.Test.YtbabkcjnfdpafaaGreatDoorMd
import Derived.Shelf.SlMaps.Clone
namespace Go.Proofs.YtbabkcjnfdpafaaGreatDoor
open Go.ChangeShapes Go.WideShapes Go.ChangeAt Go.RowKit Go.Maps

set_option maxRecDepth 8000 in
set_option maxHeartbeats 1600000 in
theorem clone_any (b : Nat) (S : Int → Int → Bool) (w : World) (h : Ds w b S) :
    Calls Tryz.prog 97 #[.map (some b)] w fun e w' => e = .returned (.map (some w.heap.size)) ∧ Ds w' w.heap.size S ∧ w.heap.size < w'.heap.size ∧ Below w.heap.size w w' := by
  obtain ⟨D, ⟨es, clock, hb, F, hs, hD⟩, hS⟩ := h
  have hq := fun w => run_eql_map_nil_sl (P := Tryz.prog) w 55 _ _ (some b) Tryz.underlying55
  have hext : (callFunc 109 #[.iface 55 (.map (some b))]).run Tryz.prog w = .ok (.value (.iface 55 (.map (some w.heap.size)))) (w.alloc (.map es clock)) := by
    rw [run_callFunc_extern Tryz.func109 (by kernel_rfl) (by kernel_rfl) (by kernel_rfl) (e := Extern.MapsClone.clone) (by kernel_rfl), run_maps_clone_sl w 55 hb]
    rfl
  go_enter Tryz.func97, Tryz.ntmps97
  go_wp2
  rw [run_typeAssert_map_sl _ 55 20 _ _ _ Tryz.underlying55]
  simp only [Result.andThen]
  rw [Oper.upon_value]
  go_wp2
  go_ret
  exact ⟨rfl, ⟨D, ⟨es, clock, (MapKept.heap_alloc w _).1, F, hs, hD⟩, hS⟩, by simp, (Below.refl _ _).alloc (Nat.le_refl _) _⟩
end Go.Proofs.YtbabkcjnfdpafaaGreatDoor
