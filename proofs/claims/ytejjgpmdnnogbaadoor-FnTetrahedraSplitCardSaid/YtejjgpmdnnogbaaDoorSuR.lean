/- Rows of numbers that a call has made: read, written, kept. -/
import Derived.Test.YtejjgpmdnnogbaaDoorSuP
import Derived.Laws.OwnMore
import Derived.Laws.AppendOwnNone
namespace Go.Proofs.YtejjgpmdnnogbaaDoor
open Go.RowKit

/-- The numbers f 0, .., f (n - 1). -/
def tab (f : Nat → Int) (n : Nat) : List Int := (List.range n).map f
theorem tab_len (f : Nat → Int) (n : Nat) : (tab f n).length = n := by simp [tab]
theorem tab_get (f : Nat → Int) (n j : Nat) (h : j < n) : (tab f n)[j]? = some (f j) := by simp [tab, h]
/-- f, but x at j. -/
def upd (f : Nat → Int) (j : Nat) (x : Int) : Nat → Int := fun m => if m = j then x else f m
theorem tab_set (f : Nat → Int) (n j : Nat) (x : Int) : (tab f n).set j x = tab (upd f j x) n := by
  apply List.ext_getElem?
  intro i
  by_cases hi : i < n
  · rw [tab_get _ _ _ hi, List.getElem?_set]
    by_cases e : j = i
    · subst e; simp [tab_len, hi, upd]
    · have e2 : ¬ i = j := fun h => e h.symm
      rw [if_neg e, tab_get _ _ _ hi]
      simp [upd, e2]
  · rw [List.getElem?_eq_none (by simp [tab_len]; omega), List.getElem?_eq_none (by simp [tab_len]; omega)]
theorem tab_congr {f g : Nat → Int} {n : Nat} (h : ∀ m, m < n → f m = g m) : tab f n = tab g n := by
  apply List.ext_getElem?
  intro i
  by_cases hi : i < n
  · rw [tab_get _ _ _ hi, tab_get _ _ _ hi, h i hi]
  · rw [List.getElem?_eq_none (by simp [tab_len]; omega), List.getElem?_eq_none (by simp [tab_len]; omega)]
theorem i64s_set (xs : List Int) (j : Nat) (x : Int) : (i64s xs).set j (.int .i64 x) = i64s (xs.set j x) := by
  simp [List.map_set]

/-- Block g is a row of the call's own that has the numbers f 0, .., f (n - 1). -/
def Row (w : World) (base g n c : Nat) (f : Nat → Int) : Prop := w.ownsRow base 3 1 (.slice (some ⟨g, 0, none⟩) n c) n (i64s (tab f n))
section
variable {w w' : World} {base g n c : Nat} {f f' : Nat → Int}
theorem Row.cell (h : Row w base g n c f) {j : Nat} (hj : j < n) : w.cell? ⟨g, j, none⟩ = some (.int .i64 (f j)) := by
  rw [World.ownsRow.cellAt h j (by omega)]
  simp [tab_get f n j hj]
theorem Row.frozen (h : Row w base g n c f) (j : Nat) : w.frozen? ⟨g, j, none⟩ = false := World.ownsRow.frozenAt h j
theorem Row.set (h : Row w base g n c f) (j : Nat) (x : Int) : Row (w.setCell ⟨g, j, none⟩ (.int .i64 x)) base g n c (upd f j x) := by
  have h1 := (World.ownsRow.stored h j (.int .i64 x)).1
  rw [i64s_set, tab_set] at h1
  exact h1
theorem Row.congr (h : Row w base g n c f) (he : ∀ m, m < n → f m = f' m) : Row w base g n c f' := by
  unfold Row at h ⊢
  rwa [tab_congr he] at h
theorem Row.lt (h : Row w base g n c f) : base ≤ g ∧ g < w.heap.size := World.ownsRow.lt h g rfl
theorem Row.below {B : Nat} (h : Row w base g n c f) (hb : Below B w w') (hB : w.heap.size ≤ B) : Row w' base g n c f := row_below h hb hB
theorem Row.drewN (h : Row w base g n c f) (k : Nat) : Row (w.drewN k) base g n c f := h
theorem Row.drew (h : Row w base g n c f) : Row w.drew base g n c f := h
theorem Row.own (h : Row w base g n c f) : Own w base w.heap.size (some ⟨g, 0, none⟩) (i64s (tab f n)) := own_of_row h
theorem row_made (h : w.ownsRow base 3 1 (.slice (some ⟨g, 0, none⟩) n c) n (madeCells (Value.int .i64 0).cells (n * 1)).toList) : Row w base g n c (fun _ => 0) := by
  unfold Row
  have e : (madeCells (Value.int .i64 0).cells (n * 1)).toList = i64s (tab (fun _ => 0) n) := by
    rw [Nat.mul_one]
    show (madeCells #[Value.int .i64 0] n).toList = _
    rw [toList_madeCells_one]
    apply List.ext_getElem?
    intro j
    by_cases hj : j < n
    · simp [tab_get _ n j hj, hj]
    · rw [List.getElem?_eq_none (by simp; omega), List.getElem?_eq_none (by simp [tab_len]; omega)]
  rwa [e] at h
/-- A row whose cells are at places j of the same block from o on. -/
theorem Row.cast {n' : Nat} (h : Row w base g n c f) (e : n = n') : Row w base g n' c f := e ▸ h
end
end Go.Proofs.YtejjgpmdnnogbaaDoor
