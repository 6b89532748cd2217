/- Chapter 7: rows of marks in memory; the specification's marks of a picture. -/
import Derived.Test.YtbcgidgjdedkiaaDtG
import Derived.Laws.OwnMore
import Derived.Laws.AppendOwnNone
namespace Go.Proofs.Ytbcgidgjdedkiaa
open Go.ChangeShapes Go.WideShapes Go.ChangeAt Go.RowKit

theorem infoBool : (Try.prog.info? 4).map (fun i => (i.zero, i.size, i.bytes)) = some (some (.bool false), 1, 1) := by kernel_rfl
/-- The marks d 0, .., d (n - 1). -/
def tbs (d : Nat → Bool) (n : Nat) : List Value := (List.range n).map fun i => Value.bool (d i)
theorem tbs_len (d : Nat → Bool) (n : Nat) : (tbs d n).length = n := by simp [tbs]
theorem tbs_get (d : Nat → Bool) (n j : Nat) (h : j < n) : (tbs d n)[j]? = some (.bool (d j)) := by simp [tbs, h]
theorem tbs_succ (d : Nat → Bool) (n : Nat) : tbs d (n + 1) = tbs d n ++ [.bool (d n)] := by simp [tbs, List.range_succ]
/-- d, but b at j. -/
def updB (d : Nat → Bool) (j : Nat) (b : Bool) : Nat → Bool := fun m => if m = j then b else d m
theorem tbs_set (d : Nat → Bool) (n j : Nat) (b : Bool) : (tbs d n).set j (.bool b) = tbs (updB d j b) n := by
  apply List.ext_getElem?
  intro i
  by_cases hi : i < n
  · rw [tbs_get _ _ _ hi, List.getElem?_set]
    by_cases e : j = i
    · subst e; simp [tbs_len, hi, updB]
    · have e2 : ¬ i = j := fun h => e h.symm
      rw [if_neg e, tbs_get _ _ _ hi]
      simp [updB, e2]
  · rw [List.getElem?_eq_none (by simp [tbs_len]; omega), List.getElem?_eq_none (by simp [tbs_len]; omega)]
theorem tbs_congr {d e : Nat → Bool} {n : Nat} (h : ∀ m, m < n → d m = e m) : tbs d n = tbs e n := by
  unfold tbs
  exact List.map_congr_left fun i hi => by rw [h i (List.mem_range.1 hi)]
/-- Block g is a row of the call's own that has the marks d 0, .., d (n - 1). -/
def Marks (w : World) (base g n c : Nat) (d : Nat → Bool) : Prop := w.ownsRow base 4 1 (.slice (some ⟨g, 0, none⟩) n c) n (tbs d n)
section
variable {w w' : World} {base g n c : Nat} {d e : Nat → Bool}
theorem Marks.cell (h : Marks w base g n c d) {j : Nat} (hj : j < n) : w.cell? ⟨g, j, none⟩ = some (.bool (d j)) := by
  rw [World.ownsRow.cellAt h j (by omega)]
  simp [tbs_get d n j hj]
theorem Marks.frozen (h : Marks w base g n c d) (j : Nat) : w.frozen? ⟨g, j, none⟩ = false := World.ownsRow.frozenAt h j
theorem Marks.set (h : Marks w base g n c d) (j : Nat) (b : Bool) : Marks (w.setCell ⟨g, j, none⟩ (.bool b)) base g n c (updB d j b) := by
  have h1 := (World.ownsRow.stored h j (.bool b)).1
  rw [tbs_set] at h1
  exact h1
theorem Marks.congr (h : Marks w base g n c d) (he : ∀ m, m < n → d m = e m) : Marks w base g n c e := by
  unfold Marks at h ⊢
  rwa [tbs_congr he] at h
theorem Marks.lt (h : Marks w base g n c d) : base ≤ g ∧ g < w.heap.size := World.ownsRow.lt h g rfl
theorem Marks.below {B : Nat} (h : Marks w base g n c d) (hb : Below B w w') (hB : w.heap.size ≤ B) : Marks w' base g n c d := row_below h hb hB
theorem Marks.mono {lo : Nat} (h : Marks w base g n c d) (hb : lo ≤ base) : Marks w lo g n c d := by
  refine ⟨h.1, ?_⟩
  rcases h.2 with h2 | ⟨a, b, u, q, r, s⟩
  · exact .inl h2
  · exact .inr ⟨a, b, u, q, by omega, s⟩
theorem marks_made (h : w.ownsRow base 4 1 (.slice (some ⟨g, 0, none⟩) n c) n (madeCells (Value.bool false).cells (n * 1)).toList) : Marks w base g n c (fun _ => false) := by
  unfold Marks
  have e : (madeCells (Value.bool false).cells (n * 1)).toList = tbs (fun _ => false) n := by
    rw [Nat.mul_one]
    show (madeCells #[Value.bool false] n).toList = _
    rw [toList_madeCells_one]
    apply List.ext_getElem?
    intro j
    by_cases hj : j < n
    · simp [tbs_get _ n j hj, hj]
    · rw [List.getElem?_eq_none (by simp; omega), List.getElem?_eq_none (by simp [tbs_len]; omega)]
  rwa [e] at h
end
theorem marks_of_row {w : World} {lo n : Nat} {V : Value} {d : Nat → Bool} (h : w.ownsRow lo 4 1 V n (tbs d n)) (h1 : 1 ≤ n) : ∃ g c, V = .slice (some ⟨g, 0, none⟩) n c ∧ n ≤ c ∧ c ≤ maxLen ∧ Marks w lo g n c d := by
  have hh := h
  rcases h.2 with ⟨_, h0⟩ | ⟨g, c, cur, rfl, hlo, hcell, hc, hmax, hsz, htk⟩
  · omega
  · exact ⟨g, c, rfl, hc, hmax, hh⟩
/-- A string's iterator moved on leaves a row a row. -/
theorem own_iterAt {w : World} {base : Nat} {e : TypeId} {size : Nat} {v : Value} {n : Nat} {xs : List Value} (h : w.ownsRow base e size v n xs) {k : Nat} {s : ByteArray} {pos : Nat} (hk : w.heap[k]? = some (.stringIter s pos)) (p : Nat) : (w.iterAt k s p).ownsRow base e size v n xs := by
  refine ⟨h.1, ?_⟩
  rcases h.2 with h2 | ⟨g, cap, cur, a, b, c, d⟩
  · exact .inl h2
  · refine .inr ⟨g, cap, cur, a, b, ?_, d⟩
    have hne : g ≠ k := by
      intro e1
      rw [e1, hk] at c
      cases c
    rw [Lib.iterAt_other _ _ _ _ _ hne]
    exact c
theorem iter_grown {w w' : World} {base : Nat} {e : TypeId} {size : Nat} {v : Value} {n : Nat} {xs : List Value} (h : w.ownsRow base e size v n xs) (hg : w.grownBy w' v.ownBlock) {k : Nat} {s : ByteArray} {pos : Nat} (hk : w.heap[k]? = some (.stringIter s pos)) : w'.heap[k]? = some (.stringIter s pos) := by
  have hlt : k < w.heap.size := (Array.getElem?_eq_some_iff.1 hk).1
  rw [hg.block k hlt ?_]
  · exact hk
  · intro e1
    rcases h.2 with ⟨h2, _⟩ | ⟨g, cap, cur, a, b, c, d⟩
    · rw [h2] at e1; cases e1
    · rw [a] at e1
      have e2 : k = g := by simpa [Value.ownBlock] using e1
      rw [← e2, hk] at c
      cases c
theorem iter_alloc {w : World} {k : Nat} {s : ByteArray} {pos : Nat} (hk : w.heap[k]? = some (.stringIter s pos)) (o : Obj) : (w.alloc o).heap[k]? = some (.stringIter s pos) := by
  have hlt : k < w.heap.size := (Array.getElem?_eq_some_iff.1 hk).1
  rw [(World.grownBy_alloc w o none).block k hlt (by simp)]
  exact hk
end Go.Proofs.Ytbcgidgjdedkiaa
