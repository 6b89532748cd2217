/- Chapter 8: the laws' helpers: a list that is marked leaves all other blocks alone. -/
import Derived.Test.YtljleceepghfjaaDoorSuP
namespace Go.Proofs.YtljleceepghfjaaDoor
open Go.RowKit

/-- Nothing has turned but in the blocks from lo to hi. -/
def Far (lo hi : Nat) (w w' : World) : Prop := w'.heap.size = w.heap.size ∧ ∀ b, (b < lo ∨ hi ≤ b) → w'.heap[b]? = w.heap[b]?
theorem cell_heap {w w' : World} {a : Addr} (h : w'.heap[a.block]? = w.heap[a.block]?) : w'.cell? a = w.cell? a := by
  unfold World.cell?
  rw [h]
theorem frozen_heap {w w' : World} {a : Addr} (h : w'.heap[a.block]? = w.heap[a.block]?) : w'.frozen? a = w.frozen? a := by
  unfold World.frozen?
  rw [h]
theorem Far.refl (lo hi : Nat) (w : World) : Far lo hi w w := ⟨rfl, fun _ _ => rfl⟩
theorem Far.set_ {lo hi g o : Nat} {w w' : World} (h : Far lo hi w w') (h1 : lo ≤ g) (h2 : g < hi) (v : Value) : Far lo hi w (w'.setCell ⟨g, o, none⟩ v) :=
  ⟨by rw [← h.1]; simp [World.setCell], fun b hb => (Below.heap_setCell _ _ _ _ (fun e => by simp at e; omega)).trans (h.2 b hb)⟩
theorem Own.far8 {lo hi l h : Nat} {w w' : World} {A : Option Addr} {cs : List Value} (ho : Own w l h A cs) (hf : Far lo hi w w') (hd : h ≤ lo ∨ hi ≤ l) : Own w' l h A cs := fun hn => by
  obtain ⟨g, o, e, h1, h2, hc⟩ := ho hn
  refine ⟨g, o, e, h1, h2, fun j u hu => ?_⟩
  have hb : w'.heap[g]? = w.heap[g]? := hf.2 g (by omega)
  rw [cell_heap (a := ⟨g, o + j, none⟩) hb, frozen_heap (a := ⟨g, o + j, none⟩) hb]
  exact hc j u hu
end Go.Proofs.YtljleceepghfjaaDoor
