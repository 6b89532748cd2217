/- Rows of sets of counts (32 bits each): read, written, kept, copied; slices of them. -/
import Derived.Test.YtegbikakfckehaaDoorMb
namespace Go.Proofs.YtegbikakfckehaaDoor
open Go.ChangeShapes Go.WideShapes Go.ChangeAt Go.RowKit

/-- Sets as cells. -/
abbrev u32s (xs : List Int) : List Value := xs.map (Value.int .u32)
theorem infoCo : (Tryd.prog.info? 78).map (fun i => (i.zero, i.size, i.bytes)) = some (some (.int .u32 0), 1, 4) := by kernel_rfl
theorem infoCos : (Tryd.prog.info? 73).map (fun i => (i.zero, i.size, i.bytes)) = some (some (.slice none 0 0), 1, 24) := by kernel_rfl
theorem u32s_set (xs : List Int) (j : Nat) (x : Int) : (u32s xs).set j (.int .u32 x) = u32s (xs.set j x) := by
  simp [List.map_set]
/-- Block g is a row of the call's own that has the numbers f 0, .., f (n - 1). -/
def Roc (w : World) (base g n c : Nat) (f : Nat → Int) : Prop := w.ownsRow base 78 1 (.slice (some ⟨g, 0, none⟩) n c) n (u32s (tab f n))
section
variable {w w' : World} {base g n c : Nat} {f f' : Nat → Int}
theorem Roc.cell (h : Roc w base g n c f) {j : Nat} (hj : j < n) : w.cell? ⟨g, j, none⟩ = some (.int .u32 (f j)) := by
  rw [World.ownsRow.cellAt h j (by omega)]
  simp [tab_get f n j hj]
theorem Roc.frozen (h : Roc w base g n c f) (j : Nat) : w.frozen? ⟨g, j, none⟩ = false := World.ownsRow.frozenAt h j
theorem Roc.set (h : Roc w base g n c f) (j : Nat) (x : Int) : Roc (w.setCell ⟨g, j, none⟩ (.int .u32 x)) base g n c (upd f j x) := by
  have h1 := (World.ownsRow.stored h j (.int .u32 x)).1
  rw [u32s_set, tab_set] at h1
  exact h1
theorem Roc.congr (h : Roc w base g n c f) (he : ∀ m, m < n → f m = f' m) : Roc w base g n c f' := by
  unfold Roc at h ⊢
  rwa [tab_congr he] at h
theorem Roc.lt (h : Roc w base g n c f) : base ≤ g ∧ g < w.heap.size := World.ownsRow.lt h g rfl
theorem Roc.below {B : Nat} (h : Roc w base g n c f) (hb : Below B w w') (hB : w.heap.size ≤ B) : Roc w' base g n c f := row_below h hb hB
theorem Roc.drewN (h : Roc w base g n c f) (k : Nat) : Roc (w.drewN k) base g n c f := h
theorem Roc.drew (h : Roc w base g n c f) : Roc w.drew base g n c f := h
theorem Roc.own (h : Roc w base g n c f) : Own w base w.heap.size (some ⟨g, 0, none⟩) (u32s (tab f n)) := own_of_row h
theorem roc_made (h : w.ownsRow base 78 1 (.slice (some ⟨g, 0, none⟩) n c) n (madeCells (Value.int .u32 0).cells (n * 1)).toList) : Roc w base g n c (fun _ => 0) := by
  unfold Roc
  have e : (madeCells (Value.int .u32 0).cells (n * 1)).toList = u32s (tab (fun _ => 0) n) := by
    rw [Nat.mul_one]
    show (madeCells #[Value.int .u32 0] n).toList = _
    rw [toList_madeCells_one]
    apply List.ext_getElem?
    intro j
    by_cases hj : j < n
    · simp [tab_get _ n j hj, hj]
    · rw [List.getElem?_eq_none (by simp; omega), List.getElem?_eq_none (by simp [tab_len]; omega)]
  rwa [e] at h
/-- A row whose cells are at places j of the same block from o on. -/
theorem Roc.cast {n' : Nat} (h : Roc w base g n c f) (e : n = n') : Roc w base g n' c f := e ▸ h
end
theorem Roc.wide {w : World} {base g n c : Nat} {f : Nat → Int} (h : Roc w base g n c f) {b : Nat} (hb : b ≤ base) : Roc w b g n c f := by
  refine ⟨h.1, ?_⟩
  rcases h.2 with ⟨h1, h2⟩ | ⟨g', cap, cur, h1, h2, h3⟩
  · exact Or.inl ⟨h1, h2⟩
  · exact Or.inr ⟨g', cap, cur, h1, by omega, h3⟩
theorem Roc.keptBy {w w' : World} {base g n c : Nat} {f : Nat → Int} (h : Roc w base g n c f) {b2 s2 n2 : Nat} {e2 : TypeId} {v2 : Value} {ys : List Value} (h2 : w.ownsRow b2 e2 s2 v2 n2 ys) (he : 78 ≠ e2) (hg : w.grownBy w' v2.ownBlock) : Roc w' base g n c f :=
  World.ownsRow.kept h hg (owns_apart h h2 he)

/-- A slice of rows: row j has the numbers F j 0, .., F j (n - 1). -/
def Rcs (w : World) (base : Nat) (v : Value) (rs : List Value) (n : Nat) (F : Nat → Nat → Int) : Prop :=
  w.ownsRow base 73 1 v rs.length rs ∧ ∀ j u, rs[j]? = some u → ∃ g c, u = .slice (some ⟨g, 0, none⟩) n c ∧ Roc w base g n c (F j)
section
variable {w w' : World} {base n : Nat} {v : Value} {rs : List Value} {F : Nat → Nat → Int}
theorem Rcs.below {B : Nat} (h : Rcs w base v rs n F) (hb : Below B w w') (hB : w.heap.size ≤ B) : Rcs w' base v rs n F :=
  ⟨row_below h.1 hb hB, fun j u hu => by
    obtain ⟨g, c, e, hr⟩ := h.2 j u hu
    exact ⟨g, c, e, hr.below hb hB⟩⟩
theorem Rcs.get (h : Rcs w base v rs n F) {j : Nat} (hj : j < rs.length) : ∃ gv cv g c, v = .slice (some ⟨gv, 0, none⟩) rs.length cv ∧ base ≤ gv ∧ w.cell? ⟨gv, j, none⟩ = some (.slice (some ⟨g, 0, none⟩) n c) ∧ Roc w base g n c (F j) := by
  obtain ⟨g, c, e, hr⟩ := h.2 j _ (List.getElem?_eq_getElem hj)
  rcases h.1.2 with ⟨_, h2⟩ | ⟨gv, cv, cur, h2, h3, h4⟩
  · omega
  · subst h2
    refine ⟨gv, cv, g, c, rfl, h3, ?_, hr⟩
    rw [World.ownsRow.cellAt h.1 j (by omega), List.getElem?_eq_getElem hj, e]
theorem Rcs.app {w1 : World} {v' : Value} {g c : Nat} (h : Rcs w base v rs n F) (hr : Roc w base g n c (F rs.length)) (hown : w1.ownsRow base 73 1 v' (rs.length + 1) (rs ++ [.slice (some ⟨g, 0, none⟩) n c]))
    (hg : (w.alloc (.cells #[.slice (some ⟨g, 0, none⟩) n c] 73)).grownBy w1 v.ownBlock) : Rcs w1 base v' (rs ++ [.slice (some ⟨g, 0, none⟩) n c]) n F ∧ Roc w1 base g n c (F rs.length) := by
  have hv := h.1.alloc (.cells #[.slice (some ⟨g, 0, none⟩) n c] 73)
  have keep : ∀ {g' c' : Nat} {f : Nat → Int}, Roc w base g' n c' f → Roc w1 base g' n c' f := fun hr' =>
    Roc.keptBy (World.ownsRow.alloc hr' (.cells #[.slice (some ⟨g, 0, none⟩) n c] 73)) hv (by decide) hg
  refine ⟨⟨by simpa using hown, fun j u hu => ?_⟩, keep hr⟩
  rcases Nat.lt_or_ge j rs.length with hj | hj
  · rw [List.getElem?_append_left hj] at hu
    obtain ⟨g', c', e, hr'⟩ := h.2 j u hu
    exact ⟨g', c', e, keep hr'⟩
  · have e : j = rs.length := by
      have := (List.getElem?_eq_some_iff.1 hu).1
      simp at this
      omega
    subst e
    simp at hu
    exact ⟨g, c, hu.symm, keep hr⟩
end

theorem lastCo_any (w : World) (base n : Nat) (v : Value) (rs : List Value) (F : Nat → Nat → Int) (h : Rcs w base v rs n F) (h0 : 1 ≤ rs.length) (h1 : rs.length ≤ 10000) :
    Calls Tryd.prog 68 #[v] w fun e w' => (∃ g c, e = .returned (.slice (some ⟨g, 0, none⟩) n c) ∧ Roc w base g n c (F (rs.length - 1))) ∧ w = w' := by
  obtain ⟨gv, cv, g, c, rfl, _, hc, hr⟩ := h.get (j := rs.length - 1) (by omega)
  have HR := Lib.hid hr
  generalize rs.length = k at *
  have e1 : ((k : Int) - 1).toNat = k - 1 := by omega
  have e2 : (0 : Int) ≤ (k : Int) - 1 := by omega
  have e3 : (k : Int) - 1 < (k : Int) := by omega
  clear h hr
  go_enter Tryd.func68, Tryd.ntmps68
  go_wp2
  go_ret
  exact ⟨⟨_, _, rfl, HR.out⟩, rfl⟩
set_option maxHeartbeats 800000 in
theorem cloneCo_any (base g n c : Nat) (f : Nat → Int) (w : World) (hn : 1 ≤ n) (hm : n ≤ 10000) (hr : Roc w base g n c f) :
    Calls Tryd.prog 75 #[.slice (some ⟨g, 0, none⟩) n c] w fun e w' => (∃ g' c', e = .returned (.slice (some ⟨g', 0, none⟩) n c') ∧ Roc w' w.heap.size g' n c' f) ∧ Below w.heap.size w w' := by
  obtain ⟨i0, hi0, hz0, hz1, hz2⟩ := info_parts infoCo
  have hne : ∀ w : World, (binOp .eql 73 (.slice (some ⟨g, 0, none⟩) n c) (.slice none 0 0)).run Tryd.prog w = .ok (.bool false) w := fun w => by
    rw [Lib.run_eql_slice_nil w _ _ _ _ _ _ _ Tryd.underlying73]
    rfl
  have hnI : (1 : Int) ≤ (n : Int) := by omega
  have HR := Lib.hid hr
  have hlit : (w.alloc (.cells #[] 78)).ownsRow w.heap.size 78 1 (.slice (some ⟨w.heap.size, 0, none⟩) 0 0) 0 [] := World.ownsRow_lit w #[] 0 (Nat.le_refl _) (by unfold maxLen; omega) rfl
  have HL := Lib.hid hlit
  clear hr hlit
  go_enter Tryd.func75, Tryd.ntmps75
  go_wp2_with (at_builtin; refine wpList_append_own _ rfl _ _ 73 rfl w.heap.size 78 i0 (.int .u32 0) 1 4 Tryd.underlying73 hi0 hz0 hz1 hz2 rfl (by decide) _ 0 [] rfl HL.out ⟨g, 0, none⟩ n c (u32s (tab f n)) rfl (by simp [tab_len]) ?c1 ?c2 ?c3 ?c4 ?c5 ?_)
  case c1 =>
    intro j u hj
    have hl := HR.out.lt
    obtain ⟨g', o', e, _, h4, h5⟩ := HR.out.own (by have := (List.getElem?_eq_some_iff.1 hj).1; omega)
    injection e with e
    injection e with e1 e2 _
    subst e1
    subst e2
    rw [addr_none]
    have h6 := (h5 j u hj).1
    exact ((Below.refl w.heap.size w).alloc (Nat.le_refl _) _).cell (p := ⟨g, 0 + j, none⟩) h4 |>.trans h6
  case c2 => intro u hu; simp at hu; obtain ⟨x, _, rfl⟩ := hu; rfl
  case c3 => unfold maxLen; omega
  case c4 => omega
  case c5 => simp
  · intro v' w2 hown' hgrow _
    try simp only [Nat.zero_add, List.nil_append] at hown'
    obtain ⟨g', cap, rfl⟩ : ∃ g cap, v' = .slice (some ⟨g, 0, none⟩) n cap := by
      rcases hown'.2 with ⟨_, h⟩ | ⟨g, cap, cur, h, _⟩
      · omega
      · exact ⟨g, cap, h⟩
    have hb3 : Below w.heap.size w w2 := ((Below.refl w.heap.size w).alloc (Nat.le_refl _) _).grown hgrow (by simp) fun g hg => (HL.out.lt g hg).1
    have HO2 := Lib.hid hown'
    clear hown' hgrow
    go_wp2
    go_ret
    exact ⟨⟨_, _, rfl, HO2.out⟩, hb3⟩
end Go.Proofs.YtegbikakfckehaaDoor
