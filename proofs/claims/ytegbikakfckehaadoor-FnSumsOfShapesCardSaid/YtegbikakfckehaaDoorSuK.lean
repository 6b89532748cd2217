/- Counts of parts: a table of rows, filled place by place. -/
import Derived.Test.YtegbikakfckehaaDoorSuI
import Derived.BigRegion
namespace Go
/-- Nothing is appended, wherever it lies. -/
theorem run_append_owned_nothing {P : Program} {w : World} (base : Nat) (t ty e : TypeId) (i : TypeInfo) (size c : Nat) (A : Option Addr) (ht : P.underlying t = some (.slice e)) (hi : P.info? e = some i)
    (v : Value) (n : Nat) (xs : List Value) (hown : w.ownsRow base e size v n xs) :
    (Builtin.append_ #[t, t] ty #[v, .slice A 0 c]).run P w = .ok v w := by
  cases A <;> rcases hown.2 with ⟨rfl, rfl⟩ | ⟨g, cap, cur, rfl, _, _, hnc, _⟩ <;>
    simp [Builtin.append_, run_underlying ht, sizeOf, typeInfo, Builtin.lenOf, Builtin.firstCells, storeCells, loadCells, loadCellsFrom, *]
theorem wpList_append_own_nothing {P : Program} {w : World} {ops : Array Oper} {rest : List Oper} {o : Oper} {a : Act} {Q : Exit → Act → World → Prop} (hgd : o.guard = none) (s x : Operand) (t : TypeId)
    (ho : o.op = .call { callee := .builtin .append, args := #[s, x], argTypes := #[t, t] })
    (base : Nat) (e : TypeId) (i : TypeInfo) (size c : Nat) (A : Option Addr) (ht : P.underlying t = some (.slice e)) (hi : P.info? e = some i)
    (v : Value) (n : Nat) (xs : List Value) (hs : a.eval s = v) (hown : w.ownsRow base e size v n xs) (hx : a.eval x = .slice A 0 c)
    (h : wpList P ops Q rest (a.put o.dst v) w) : wpList P ops Q (o :: rest) a w := by
  refine wpList_plain hgd fun K hK => ?_
  have hrun := run_append_owned_nothing (P := P) (w := w) base t o.type e i size c A ht hi v n xs hown
  unfold Oper.wp
  simp [execOp, ho, resolve, invoke, builtin, hs, hx, hrun, Result.andThen]
  exact hK _ _ h
end Go
namespace Go.Proofs.YtegbikakfckehaaDoor
open Go.ChangeShapes Go.WideShapes Go.ChangeAt Go.RowKit

/-- Of no number the list by place is 0 alone, with no room behind it. -/
theorem numbersByPlace_zero (s : Int) (w : World) (h1 : 3 ≤ s) (h2 : s ≤ 24) :
    Calls Tryd.prog 40 #[.int .i64 s, .int .i64 0] w fun e w' => (∃ g, e = .returned (.slice (some ⟨g, 0, none⟩) 1 1) ∧ Row w' w.heap.size g 1 1 (fun j => num s (j : Int))) ∧ Below w.heap.size w w' := by
  obtain ⟨i0, hi0, hz0, hz1, hz2⟩ := info_parts infoInt
  have HZ := Lib.hid (pl_zero s h1)
  go_enter Tryd.func40, Tryd.ntmps40
  go_wp2_with fail
  refine (impl_PolygonalUpTo_yes _ _ _ h1 h2 (by omega) (by omega)).mono ?_
  rw [HZ.out]
  rintro e w1 ⟨A, c, rfl, o1, b1⟩
  rw [nums_len]
  have hlit : (w1.alloc (.cells #[.int .i64 0] 3)).ownsRow w.heap.size 3 1 (.slice (some ⟨w1.heap.size, 0, none⟩) 1 1) 1 [.int .i64 0] := World.ownsRow_lit w1 #[.int .i64 0] 1 b1.size (by unfold maxLen; omega) rfl
  have HL := Lib.hid hlit
  have hb2 : Below w.heap.size w (w1.alloc (.cells #[.int .i64 0] 3)) := b1.alloc b1.size _
  clear o1 hlit
  go_wp2_with (at_builtin; refine wpList_append_own_nothing rfl _ _ 25 rfl w.heap.size 3 i0 1 c A Tryd.underlying25 hi0 _ 1 [.int .i64 0] rfl HL.out rfl ?_)
  go_ret
  refine ⟨⟨_, rfl, ?_⟩, hb2⟩
  unfold Row
  rw [tab_nums s 0]
  simpa [nums] using HL.out
/-- The table's outer cells: the first i of P rows are there. -/
def outer (G : Nat → Nat) (n i P : Nat) : List Value := (List.range P).map fun j => if j < i then .slice (some ⟨G j, 0, none⟩) n n else .slice none 0 0
theorem outer_len (G : Nat → Nat) (n i P : Nat) : (outer G n i P).length = P := by simp [outer]
theorem outer_get (G : Nat → Nat) (n i P j : Nat) (h : j < P) : (outer G n i P)[j]? = some (if j < i then .slice (some ⟨G j, 0, none⟩) n n else .slice none 0 0) := by simp [outer, h]
theorem outer_set (G : Nat → Nat) (n i P g : Nat) : (outer G n i P).set i (.slice (some ⟨g, 0, none⟩) n n) = outer (fun j => if j = i then g else G j) n (i + 1) P := by
  apply List.ext_getElem?
  intro j
  by_cases hj : j < P
  · rw [outer_get _ _ _ _ _ hj, List.getElem?_set]
    by_cases e : i = j
    · subst e; simp [outer_len, hj]
    · have e2 : ¬ j = i := fun h => e h.symm
      have e3 : (j < i + 1) = (j < i) := propext (by omega)
      rw [if_neg e, outer_get _ _ _ _ _ hj]
      simp [e2, e3]
  · rw [List.getElem?_eq_none (by simp [outer_len]; omega), List.getElem?_eq_none (by simp [outer_len]; omega)]

/-- A table of P rows of n numbers, the first i of them there: row j in block G j has the numbers F j 0, .. -/
structure Mat (w : World) (base gv cv P n i : Nat) (G : Nat → Nat) (F : Nat → Nat → Int) : Prop where
  own : w.ownsRow base 25 1 (.slice (some ⟨gv, 0, none⟩) P cv) P (outer G n i P)
  rows : ∀ j, j < i → Row w base (G j) n n (F j)
  apart : ∀ j k, j < i → k < i → j ≠ k → G j ≠ G k
section
variable {w w' w1 : World} {base gv cv P n i : Nat} {G : Nat → Nat} {F F' : Nat → Nat → Int}
theorem Mat.cell (h : Mat w base gv cv P n i G F) {j : Nat} (hj : j < i) (hp : j < P) : w.cell? ⟨gv, j, none⟩ = some (.slice (some ⟨G j, 0, none⟩) n n) := by
  rw [World.ownsRow.cellAt h.own j (by omega), outer_get _ _ _ _ _ hp, if_pos hj]
theorem Mat.congr (h : Mat w base gv cv P n i G F) (he : ∀ j, j < i → ∀ m, m < n → F j m = F' j m) : Mat w base gv cv P n i G F' :=
  ⟨h.own, fun j hj => (h.rows j hj).congr (he j hj), h.apart⟩
theorem Mat.below {B : Nat} (h : Mat w base gv cv P n i G F) (hb : Below B w w') (hB : w.heap.size ≤ B) : Mat w' base gv cv P n i G F :=
  ⟨row_below h.own hb hB, fun j hj => (h.rows j hj).below hb hB, h.apart⟩
theorem Mat.drew (h : Mat w base gv cv P n i G F) : Mat w.drew base gv cv P n i G F := ⟨h.own, h.rows, h.apart⟩
theorem Mat.drewN (h : Mat w base gv cv P n i G F) (k : Nat) : Mat (w.drewN k) base gv cv P n i G F := ⟨h.own, h.rows, h.apart⟩
theorem Mat.set (h : Mat w base gv cv P n i G F) {j : Nat} (hj : j < i) (m : Nat) (x : Int) : Mat (w.setCell ⟨G j, m, none⟩ (.int .i64 x)) base gv cv P n i G (fun k => if k = j then upd (F j) m x else F k) := by
  have hr := h.rows j hj
  refine ⟨ownsRow_setCell_other h.own (a := ⟨G j, m, none⟩) (fun e => ?_) _, fun k hk => ?_, h.apart⟩
  · rcases owns_apart hr h.own (by decide) with h1 | h1
    · cases h1
    · exact h1 e.symm
  · by_cases e : k = j
    · subst e
      simp only [if_true]
      exact hr.set m x
    · simp only [e, if_false]
      exact ownsRow_setCell_other (h.rows k hk) (a := ⟨G j, m, none⟩) (fun e2 => h.apart k j hk hj e (by simpa [Value.ownBlock] using e2)) _
theorem Mat.add (h : Mat w base gv cv P n i G F) {g : Nat} (hr : Row w1 base g n n (F i)) (hg : w.heap.size ≤ g) (hgr : w.grownBy w1 none) :
    Mat (w1.setCell ⟨gv, i, none⟩ (.slice (some ⟨g, 0, none⟩) n n)) base gv cv P n (i + 1) (fun j => if j = i then g else G j) F := by
  have ho := World.ownsRow.kept h.own hgr (Or.inr (by simp [Value.ownBlock]))
  have hk : ∀ j, j < i → Row w1 base (G j) n n (F j) := fun j hj => World.ownsRow.kept (h.rows j hj) hgr (Or.inr (by simp [Value.ownBlock]))
  have other : ∀ {g' : Nat} {f : Nat → Int}, Row w1 base g' n n f → Row (w1.setCell ⟨gv, i, none⟩ (.slice (some ⟨g, 0, none⟩) n n)) base g' n n f := fun hr' =>
    ownsRow_setCell_other hr' (a := ⟨gv, i, none⟩) (fun e => by
      rcases owns_apart hr' ho (by decide) with h1 | h1
      · cases h1
      · exact h1 e) _
  have hlt : ∀ j, j < i → G j < w.heap.size := fun j hj => (h.rows j hj).lt.2
  refine ⟨?_, fun j hj => ?_, fun j k hj hk' hjk => ?_⟩
  · have h2 := (World.ownsRow.stored ho i (.slice (some ⟨g, 0, none⟩) n n)).1
    rw [outer_set] at h2
    exact h2
  · by_cases e : j = i
    · subst e
      simp only [if_true]
      exact other hr
    · simp only [e, if_false]
      exact other (hk j (by omega))
  · by_cases e : j = i
    · have e2 : ¬ k = i := by omega
      simp only [e, e2, if_true, if_false]
      have := hlt k (by omega)
      omega
    · by_cases e2 : k = i
      · simp only [e, e2, if_true, if_false]
        have := hlt j (by omega)
        omega
      · simp only [e, e2, if_false]
        exact h.apart j k (by omega) (by omega) hjk
theorem mat_made (G : Nat → Nat) (h : w.ownsRow base 25 1 (.slice (some ⟨gv, 0, none⟩) P cv) P (madeCells (Value.slice none 0 0).cells (P * 1)).toList) : Mat w base gv cv P n 0 G F := by
  refine ⟨?_, fun j hj => by omega, fun j k hj => by omega⟩
  have e : (madeCells (Value.slice none 0 0).cells (P * 1)).toList = outer G n 0 P := by
    rw [Nat.mul_one]
    show (madeCells #[Value.slice none 0 0] P).toList = _
    rw [toList_madeCells_one]
    apply List.ext_getElem?
    intro j
    by_cases hj : j < P
    · rw [outer_get _ _ _ _ _ hj]; simp [hj]
    · rw [List.getElem?_eq_none (by simp; omega), List.getElem?_eq_none (by simp [outer_len]; omega)]
  rwa [e] at h
end

/-- Counts of parts up to place k, but up to k + 1 for fewer parts than i, and for i parts of sums below q. -/
def wmix (s : Int) (k i : Nat) (q : Int) : Nat → Nat → Int := fun j m => if j < i ∨ (j = i ∧ (m : Int) < q) then (W s (k + 1) j m : Int) else (W s k j m : Int)
end Go.Proofs.YtegbikakfckehaaDoor
