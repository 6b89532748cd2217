/- Chapter 7: the specification's border taken away. -/
import Derived.Test.YtbcgidgjdedkiaaDtJ
namespace Go.Proofs.Ytbcgidgjdedkiaa
open Go.ChangeShapes Go.WideShapes Go.ChangeAt Go.RowKit

/-- The dots left when the first a places are taken. -/
def ptk (W H : Nat) (d : Nat → Bool) (a : Nat) (i : Nat) : Bool := if i < a then tkn W H d i else d i
theorem ptk_zero (W H : Nat) (d : Nat → Bool) (i : Nat) : d i = ptk W H d 0 i := by simp [ptk]
theorem ptk_yes (W H : Nat) (d : Nat → Bool) (a i : Nat) (h : brd W H d a = true) : updB (ptk W H d a) a false i = ptk W H d (a + 1) i := by
  unfold updB ptk
  by_cases e : i = a
  · subst e
    rw [if_pos rfl, if_pos (by omega)]
    simp [tkn, h]
  · rw [if_neg e]
    have : (i < a) ↔ (i < a + 1) := by omega
    simp only [this]
theorem ptk_no (W H : Nat) (d : Nat → Bool) (a i : Nat) (h : brd W H d a = false) : ptk W H d a i = ptk W H d (a + 1) i := by
  unfold ptk
  by_cases e : i = a
  · subst e
    rw [if_neg (by omega), if_pos (by omega)]
    simp [tkn, h]
  · have : (i < a) ↔ (i < a + 1) := by omega
    simp only [this]
theorem ptk_all (W H : Nat) (d : Nat → Bool) (n i : Nat) (h : i < n) : ptk W H d n i = tkn W H d i := by simp [ptk, h]
theorem Marks.put {w : World} {base g n c b j : Nat} {d : Nat → Bool} (h : Marks w base g n c d) (hb : b < base) (v : Value) : Marks (w.setCell ⟨b, j, none⟩ v) base g n c d :=
  ownsRow_setCell_below h hb v
theorem grownBy_of_below {w w' : World} (h : Below w.heap.size w w') (row : Option Nat) : w.grownBy w' row := ⟨h.os, h.tape, h.output, h.size, fun k hk _ => h.block k hk⟩
theorem grownBy_trans {w w1 w2 : World} {row : Option Nat} (h : w.grownBy w1 row) (k : w1.grownBy w2 row) : w.grownBy w2 row :=
  ⟨k.os.trans h.os, k.tape.trans h.tape, k.output.trans h.output, Nat.le_trans h.size k.size, fun i hi hr => (k.block i (Nat.lt_of_lt_of_le hi h.size) hr).trans (h.block i hi hr)⟩
theorem grownBy_set {w w1 : World} {g j : Nat} (h : w.grownBy w1 (some g)) (v : Value) : w.grownBy (w1.setCell ⟨g, j, none⟩ v) (some g) := by
  have hb := (Below.refl g w1).setCell (p := ⟨g, j, none⟩) (Nat.le_refl _) v
  refine grownBy_trans h ⟨hb.os, hb.tape, hb.output, hb.size, fun i hi hr => ?_⟩
  have hne : ¬ i = g := fun e => hr (by rw [e])
  simp only [World.setCell]
  rw [Array.getElem?_modify, if_neg (fun e => hne e.symm)]
end Go.Proofs.Ytbcgidgjdedkiaa
