/- Chapter 7: the text of the program's picture. -/
import Derived.Test.YtppdjjdejggjaaaDoorDuL
import Derived.Test.YtppdjjdejggjaaaDoorDuJ
namespace Go.Proofs.YtppdjjdejggjaaaDoor
open Go.ChangeShapes Go.WideShapes Go.ChangeAt Go.RowKit Go.Maps

/-- The text, as far as the first k places. -/
def txP (W : Nat) (d : Nat → Bool) : Nat → List UInt8
  | 0 => []
  | k + 1 => txP W d k ++ (if k % W = 0 ∧ 0 < k / W then [47] else []) ++ [sgn (d k)]
theorem txP_len (W : Nat) (d : Nat → Bool) (k : Nat) : (txP W d k).length ≤ 2 * k := by
  induction k with
  | zero => simp [txP]
  | succ k ih =>
    rw [txP]
    simp only [List.length_append, List.length_singleton]
    split <;> simp <;> omega
theorem txP_row (W : Nat) (d : Nat → Bool) (y : Nat) (hy : txP W d (y * W) = joinP 47 (gRows W y d)) (x : Nat) (hx : x < W) : txP W d (y * W + (x + 1)) = joinP 47 (gRows W y d ++ [(List.range (x + 1)).map fun i => sgn (d (y * W + i))]) := by
  induction x with
  | zero =>
    rw [Nat.zero_add, txP, hy, ← Nat.add_zero (y * W), place_x (x := 0) hx, place_y (x := 0) hx]
    rcases Nat.eq_zero_or_pos y with rfl | h
    · simp [gRows, joinP]
    · rw [if_pos ⟨rfl, h⟩, joinP_snoc _ _ _ (fun e => by have := gRows_len W y d; rw [e] at this; simp at this; omega)]
      simp
  | succ x ih =>
    rw [← Nat.add_assoc, txP, ih (by omega), place_x (x := x + 1) hx, if_neg (by omega), List.append_nil, List.range_succ (n := x + 1), List.map_append, ← joinP_ext]
    rfl
theorem txP_rows (W : Nat) (d : Nat → Bool) (hW : 1 ≤ W) (y : Nat) : txP W d (y * W) = joinP 47 (gRows W y d) := by
  induction y with
  | zero => simp [txP, gRows, joinP]
  | succ y ih =>
    have h := txP_row W d y ih (W - 1) (by omega)
    rw [show W - 1 + 1 = W by omega] at h
    rw [Nat.succ_mul, h]
    congr 1
    simp [gRows, List.range_succ, gRow]
theorem txP_all (W H : Nat) (d : Nat → Bool) (hW : 1 ≤ W) : txP W d (W * H) = gText W H d := by
  rw [Nat.mul_comm, txP_rows W d hW]
  rfl
theorem Bdr.below {w w' : World} {B b : Nat} {bs : List UInt8} (h : Bdr w B b bs) (hb : Below w.heap.size w w') : Bdr w' B b bs := by
  have hg := grown_of_below hb (Nat.le_refl _)
  have key : ∀ p, Lib.BuilderAtF 94 5 B b p (Lib.byteCells bs) w → Lib.BuilderAtF 94 5 B b p (Lib.byteCells bs) w' := by
    rintro p ⟨hB, v, hh, ho, hn⟩
    have hlt : b < w.heap.size := (Array.getElem?_eq_some_iff.1 hh).1
    exact ⟨hB, v, (hb.block b hlt).trans hh, ho.kept hg (by cases hv : v.ownBlock <;> simp), hn⟩
  exact h.elim (fun h => .inl (key _ h)) (fun h => .inr (key _ h))
theorem oth_row {w w' : World} {b base n : Nat} {v : Value} {cs : List Value} {e size : Nat} (h : w.ownsRow base e size v n cs) (hk : Oth w w' b) (he : e ≠ 5) (hb : b < base) : w'.ownsRow base e size v n cs := by
  obtain ⟨h1, h2⟩ := h
  refine ⟨h1, h2.imp id ?_⟩
  rintro ⟨g, cap, cur, hv, hg, hh, r⟩
  exact ⟨g, cap, cur, hv, hg, hk g _ hh (by simp; omega) (by intro c fz e1; cases e1; exact he rfl), r⟩
theorem oth_cell {w w' : World} {b g j : Nat} {cs : Array Value} {t : TypeId} {fr : Nat × Nat} {v : Value} (h : w.heap[g]? = some (.cells cs t fr)) (hk : Oth w w' b) (ht : t ≠ 5) (hb : g ≠ b) (hv : cs[j]? = some v) : w'.cell? ⟨g, j, none⟩ = some v := by
  have h2 := hk g _ h (by simp; exact hb) (by intro c fz e1; cases e1; exact ht rfl)
  rw [Lib.cell_of_heap h2]
  exact hv
theorem writeB (B b : Nat) (bs : List UInt8) (w : World) (h : Bdr w B b bs) (hl : bs.length ≤ 100000) (hBw : B ≤ w.heap.size) :
    Calls Tryd.prog 70 #[.pointer (some ⟨b, 0, none⟩), .string ⟨#[47]⟩] w fun e w' => e = .returned (.tuple #[.int .i64 1, .nilIface]) ∧ Bdr w' B b (bs ++ [47]) ∧ Below B w w' ∧ Oth w w' b := writeString_any B b bs ⟨#[47]⟩ w h hl (by decide) hBw
theorem infoNe8 : 79 ≠ 5 := by decide
end Go.Proofs.YtppdjjdejggjaaaDoor
