/- Sums of different places: the program's counts, a row a place. -/
import Derived.Test.YtjfpnecnmdclfaaSuE
import Derived.Test.YtjfpnecnmdclfaaSuD
namespace Go.Proofs.Ytjfpnecnmdclfaa
open Go.ChangeShapes Go.WideShapes Go.ChangeAt Go.RowKit

theorem infoRow : (Try.prog.info? 24).map (fun i => (i.zero, i.size, i.bytes)) = some (some (.slice none 0 0), 1, 24) := by kernel_rfl

theorem owns_apart {w : World} {b1 b2 s1 s2 n1 n2 : Nat} {e1 e2 : TypeId} {v1 v2 : Value} {xs ys : List Value} (h1 : w.ownsRow b1 e1 s1 v1 n1 xs) (h2 : w.ownsRow b2 e2 s2 v2 n2 ys) (he : e1 ≠ e2) : v1.ownBlock = none ∨ v1.ownBlock ≠ v2.ownBlock := by
  rcases h1.2 with ⟨rfl, _⟩ | ⟨g, cap, cur, rfl, _, hg, _⟩
  · exact Or.inl rfl
  · refine Or.inr fun e => ?_
    rcases h2.2 with ⟨rfl, _⟩ | ⟨g', cap', cur', rfl, _, hg', _⟩
    · cases e
    · have e2 : g = g' := by simpa [Value.ownBlock] using e
      subst e2
      rw [hg] at hg'
      injection hg' with hg'
      injection hg' with _ h3 _
      exact he h3
theorem Row.wide {w : World} {base g n c : Nat} {f : Nat → Int} (h : Row w base g n c f) {b : Nat} (hb : b ≤ base) : Row w b g n c f := by
  refine ⟨h.1, ?_⟩
  rcases h.2 with ⟨h1, h2⟩ | ⟨g', cap, cur, h1, h2, h3⟩
  · exact Or.inl ⟨h1, h2⟩
  · exact Or.inr ⟨g', cap, cur, h1, by omega, h3⟩
theorem Row.keptBy {w w' : World} {base g n c : Nat} {f : Nat → Int} (h : Row w base g n c f) {b2 s2 n2 : Nat} {e2 : TypeId} {v2 : Value} {ys : List Value} (h2 : w.ownsRow b2 e2 s2 v2 n2 ys) (he : 3 ≠ e2) (hg : w.grownBy w' v2.ownBlock) : Row w' base g n c f :=
  World.ownsRow.kept h hg (owns_apart h h2 he)

/-- A slice of rows: row j has the numbers F j 0, .., F j (n - 1). -/
def Rws (w : World) (base : Nat) (v : Value) (rs : List Value) (n : Nat) (F : Nat → Nat → Int) : Prop :=
  w.ownsRow base 24 1 v rs.length rs ∧ ∀ j u, rs[j]? = some u → ∃ g c, u = .slice (some ⟨g, 0, none⟩) n c ∧ Row w base g n c (F j)
section
variable {w w' : World} {base n : Nat} {v : Value} {rs : List Value} {F : Nat → Nat → Int}
theorem Rws.below {B : Nat} (h : Rws w base v rs n F) (hb : Below B w w') (hB : w.heap.size ≤ B) : Rws w' base v rs n F :=
  ⟨row_below h.1 hb hB, fun j u hu => by
    obtain ⟨g, c, e, hr⟩ := h.2 j u hu
    exact ⟨g, c, e, hr.below hb hB⟩⟩
theorem Rws.get (h : Rws w base v rs n F) {j : Nat} (hj : j < rs.length) : ∃ gv cv g c, v = .slice (some ⟨gv, 0, none⟩) rs.length cv ∧ base ≤ gv ∧ w.cell? ⟨gv, j, none⟩ = some (.slice (some ⟨g, 0, none⟩) n c) ∧ Row w base g n c (F j) := by
  obtain ⟨g, c, e, hr⟩ := h.2 j _ (List.getElem?_eq_getElem hj)
  rcases h.1.2 with ⟨_, h2⟩ | ⟨gv, cv, cur, h2, h3, h4⟩
  · omega
  · subst h2
    refine ⟨gv, cv, g, c, rfl, h3, ?_, hr⟩
    rw [World.ownsRow.cellAt h.1 j (by omega), List.getElem?_eq_getElem hj, e]
theorem Rws.app {w1 : World} {v' : Value} {g c : Nat} (h : Rws w base v rs n F) (hr : Row w base g n c (F rs.length)) (hown : w1.ownsRow base 24 1 v' (rs.length + 1) (rs ++ [.slice (some ⟨g, 0, none⟩) n c]))
    (hg : (w.alloc (.cells #[.slice (some ⟨g, 0, none⟩) n c] 24)).grownBy w1 v.ownBlock) : Rws w1 base v' (rs ++ [.slice (some ⟨g, 0, none⟩) n c]) n F ∧ Row w1 base g n c (F rs.length) := by
  have hv := h.1.alloc (.cells #[.slice (some ⟨g, 0, none⟩) n c] 24)
  have keep : ∀ {g' c' : Nat} {f : Nat → Int}, Row w base g' n c' f → Row w1 base g' n c' f := fun hr' =>
    Row.keptBy (World.ownsRow.alloc hr' (.cells #[.slice (some ⟨g, 0, none⟩) n c] 24)) hv (by decide) hg
  refine ⟨⟨by simpa using hown, fun j u hu => ?_⟩, keep hr⟩
  rcases Nat.lt_or_ge j rs.length with hj | hj
  · rw [List.getElem?_append_left hj] at hu
    obtain ⟨g', c', e, hr'⟩ := h.2 j u hu
    exact ⟨g', c', e, keep hr'⟩
  · have e : j = rs.length := by
      have := (List.getElem?_eq_some_iff.1 hu).1
      simp at this
      omega
    subst e
    simp at hu
    exact ⟨g, c, hu.symm, keep hr⟩
end

/-- Counts up to k, but up to k + 1 for the sums below p. -/
def umix (s : Int) (k : Nat) (p : Int) : Nat → Int := fun m => if (m : Int) < p then (D s (k + 1) m : Int) else (D s k m : Int)

theorem pl_zero (s : Int) (hs : 3 ≤ s) : pl s 0 = 0 := by
  have h1 := pl_nn s 0 hs (by omega)
  have h2 := fits_iff s 0 1 hs (by omega) (by omega)
  rw [num_one] at h2
  omega
end Go.Proofs.Ytjfpnecnmdclfaa
