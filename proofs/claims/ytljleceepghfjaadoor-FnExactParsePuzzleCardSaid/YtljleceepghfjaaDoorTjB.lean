/- Chapter 9: a puzzle's text, read by the specification, clue by clue: what the loop over the clues holds. -/
import Derived.Test.YtljleceepghfjaaDoorTiL
import Derived.Test.YtljleceepghfjaaDoorTiM
import Derived.Test.YtljleceepghfjaaDoorTgL
namespace Go.Proofs.YtljleceepghfjaaDoor
open Go.ChangeShapes Go.WideShapes Go.ChangeAt Go.RowKit

/-- What the loop over a text's clues holds: the room of the answer at R, the puzzle under way at Q, the row of texts in block g, the clues so far above. -/
structure Pl9 (w0 w : World) (Q g base : Nat) (m : Int) (v : Value) (k : Nat) (xs : List Clu) (ss : List Value) : Prop where
  b : Below w0.heap.size w0 w
  rm : Rm w w0.heap.size
  c0 : w.cell? ⟨Q, 0, none⟩ = some (.int .i64 m)
  c1 : w.cell? ⟨Q, 1, none⟩ = some v
  f1 : w.frozen? ⟨Q, 1, none⟩ = false
  s : ∀ j u, ss[j]? = some u → w.cell? ⟨g, j, none⟩ = some u
  r : w.ownsRow base 34 3 v k (c64 xs)
  z0 : w0.heap.size < Q
  z1 : Q < g
  z2 : g < base
  z3 : base ≤ w.heap.size
theorem Pl9.below {w0 w w' : World} {Q g base : Nat} {m : Int} {v : Value} {k : Nat} {xs : List Clu} {ss : List Value} (h : Pl9 w0 w Q g base m v k xs ss) (hb : Below w.heap.size w w') : Pl9 w0 w' Q g base m v k xs ss := by
  have z0 := h.z0
  have z1 := h.z1
  have z2 := h.z2
  have z3 := h.z3
  have hq : Q < w.heap.size := by omega
  exact ⟨h.b.trans (hb.mono h.b.size), h.rm.below hb (by omega), (hb.cell (p := ⟨Q, 0, none⟩) hq).trans h.c0, (hb.cell (p := ⟨Q, 1, none⟩) hq).trans h.c1, (hb.frozen (p := ⟨Q, 1, none⟩) hq).trans h.f1,
    fun j u hu => (hb.cell (p := ⟨g, j, none⟩) (by show g < _; omega)).trans (h.s j u hu), row_below h.r hb (Nat.le_refl _), z0, z1, z2, Nat.le_trans z3 hb.size⟩
/-- One clue more. -/
theorem Pl9.app {w0 w w2 w3 : World} {Q g base : Nat} {m : Int} {v v' : Value} {k : Nat} {xs : List Clu} {ss : List Value} (h : Pl9 w0 w Q g base m v k xs ss) (hb : Below w.heap.size w w2) {a b c : Int}
    (ho : w3.ownsRow base 34 3 v' (k + 1) (c64 xs ++ [.int .i64 a, .int .i64 b, .int .i64 c])) (hg : w2.grownBy w3 v.ownBlock) :
    w3.cell? ⟨Q, 1, none⟩ = some v ∧ w3.frozen? ⟨Q, 1, none⟩ = false ∧ Pl9 w0 (w3.setCell ⟨Q, 1, none⟩ v') Q g base m v' (k + 1) (xs ++ [⟨a, b, c⟩]) ss := by
  have h2 := h.below hb
  obtain ⟨hB, rm, c0, c1, f1, hs, hr, z0, z1, z2, z3⟩ := h2
  have far : ∀ i, i < base → some i ≠ v.ownBlock := fun i hi e => by
    have := (hr.lt i e.symm).1
    omega
  have blk : ∀ i, i < base → w3.heap[i]? = w2.heap[i]? := fun i hi => hg.block i (by omega) (far i hi)
  have cell : ∀ i j, i < base → w3.cell? ⟨i, j, none⟩ = w2.cell? ⟨i, j, none⟩ := fun i j hi => World.cell?_of_block (a := ⟨i, j, none⟩) (blk i hi)
  have froz : ∀ i j, i < base → w3.frozen? ⟨i, j, none⟩ = w2.frozen? ⟨i, j, none⟩ := fun i j hi => World.frozen?_of_block (a := ⟨i, j, none⟩) (blk i hi)
  have hbg : Below base w2 w3 := (Below.refl base w2).grown hg z3 fun i e => (hr.lt i e).1
  have e1 : w3.cell? ⟨Q, 1, none⟩ = some v := (cell Q 1 (by omega)).trans c1
  have e2 : w3.frozen? ⟨Q, 1, none⟩ = false := (froz Q 1 (by omega)).trans f1
  have hset : Below Q w3 (w3.setCell ⟨Q, 1, none⟩ v') := (Below.refl Q w3).setCell (p := ⟨Q, 1, none⟩) (Nat.le_refl _) v'
  refine ⟨e1, e2, (hB.trans (hbg.mono (by omega))).trans (hset.mono (by omega)), (rm.below hbg (by omega)).below hset (by omega), ?_, World.cell?_setCell_same w3 _ _ e1, by rw [World.frozen?_setCell]; exact e2, fun j u hu => ?_, ?_, z0, z1, z2, ?_⟩
  · exact (World.cell?_setCell_other w3 _ _ _ (fun e => by simp at e)).trans ((cell Q 0 (by omega)).trans c0)
  · exact (World.cell?_setCell_other w3 _ _ _ (fun e => by injection e with e _ _; omega)).trans ((cell g j z2).trans (hs j u hu))
  · rw [← snoc_c64]
    exact row_set9 ho (by omega) _
  · exact Nat.le_trans (Nat.le_trans z3 hg.size) hset.size
theorem len_fold (b : UInt8) : ∀ (rs : List (List UInt8)) (r x : List UInt8), (x = r ∨ x ∈ rs) → x.length ≤ (rs.foldl (fun acc x => acc ++ (b :: x)) r).length
  | [], r, x, h => by
    rcases h with rfl | h
    · exact Nat.le_refl _
    · cases h
  | y :: rs, r, x, h => by
    rw [List.foldl_cons]
    have key := len_fold b rs (r ++ b :: y)
    rcases h with rfl | h
    · have := key (x ++ b :: y) (.inl rfl)
      rw [List.length_append] at this
      omega
    · rcases List.mem_cons.1 h with rfl | h
      · have := key (r ++ b :: x) (.inl rfl)
        rw [List.length_append, List.length_cons] at this
        omega
      · exact key x (.inr h)
/-- A part is no longer than the whole. -/
theorem parts_bd (l : List UInt8) (b : UInt8) : ∀ x ∈ parts l b, x.length ≤ l.length := by
  intro x hx
  have hj := join_parts l b
  cases hp : parts l b with
  | nil => rw [hp] at hx; cases hx
  | cons r rs =>
    rw [hp] at hx hj
    have := len_fold b rs r x (List.mem_cons.1 hx)
    rw [← hj]
    exact this
theorem three_of_len {l : List (List UInt8)} (h : l.length = 3) : ∃ x y z, l = [x, y, z] := by
  match l, h with
  | [x, y, z], _ => exact ⟨x, y, z, rfl⟩
theorem strs_three (x y z : List UInt8) : strs [x, y, z] = [.string (bt x), .string (bt y), .string (bt z)] := rfl
theorem add_none (g j : Nat) : (⟨g, 0, none⟩ : Addr).add j = ⟨g, j, none⟩ := by unfold Addr.add; split <;> simp_all
theorem bt_ne {b : List UInt8} (h : b ≠ []) : ¬ bt b = ⟨#[]⟩ := by
  intro e
  have h2 := congrArg (fun x : ByteArray => x.data.toList) e
  rw [bt_list] at h2
  exact h h2
end Go.Proofs.YtljleceepghfjaaDoor
