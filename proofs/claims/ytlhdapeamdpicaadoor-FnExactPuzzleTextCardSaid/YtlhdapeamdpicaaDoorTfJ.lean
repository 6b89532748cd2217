/- Chapter 9: an argument that is a slice of clues. -/
import Derived.Test.YtlhdapeamdpicaaDoorTfC
import Derived.Deep.Slices
import Derived.Deep.Strs
namespace Go.Proofs.YtlhdapeamdpicaaDoor
open Go.ChangeShapes Go.WideShapes Go.ChangeAt Go.RowKit Go.Deep

theorem cells_rd9 {w : World} {A : Addr} {xs : List Clu} (hc : ∀ k, k < xs.length → w.cell? (A.add (k * 3)) = some (.int .i64 (xs.getD k clu0).k) ∧ w.cell? (A.add (k * 3 + 1)) = some (.int .i64 (xs.getD k clu0).a) ∧ w.cell? (A.add (k * 3 + 2)) = some (.int .i64 (xs.getD k clu0).b)) :
    Rd w w.heap.size (some A) (c64 xs) := fun hn => by
  have hl := c64_len xs
  refine ⟨A, rfl, ?_, fun j u hu => ?_⟩
  · have h2 := (hc 0 (by omega)).1
    rw [Nat.zero_mul] at h2
    have h3 : (A.add 0) = A := rfl
    rw [h3] at h2
    rcases Nat.lt_or_ge A.block w.heap.size with h4 | h4
    · exact h4
    · simp [World.cell?, Array.getElem?_eq_none h4] at h2
  · have hj := (List.getElem?_eq_some_iff.1 hu).1
    rw [hl] at hj
    obtain ⟨p0, p1, p2⟩ := c64_at xs (j / 3) (by omega)
    obtain ⟨e0, e1, e2⟩ := hc (j / 3) (by omega)
    rcases (by omega : j = j / 3 * 3 ∨ j = j / 3 * 3 + 1 ∨ j = j / 3 * 3 + 2) with h | h | h
    · rw [h, p0] at hu; rw [h, e0, hu]
    · rw [h, p1] at hu; rw [h, e1, hu]
    · rw [h, p2] at hu; rw [h, e2, hu]
theorem slice_form9 {H : Type} {enc : TypeId × Value → H} {W : World} {t e : TypeId} {v : Value} {fuel : Nat} {x : DataW H × List MemPlace}
    (ht : Tryd.prog.underlying t = some (.slice e)) (hf : DataW.trod enc Tryd.prog W 0 (fun _ => true) true fuel t [v] = some x) : ∃ A n c, v = .slice A n c := by
  rcases open_slice ht hf with ⟨hcs, _⟩ | ⟨a, len', cap', m, nf, D, Pl, hcs, _⟩
  · simp at hcs; exact ⟨_, _, _, hcs⟩
  · simp at hcs; exact ⟨_, _, _, hcs⟩
set_option maxRecDepth 8000 in
theorem view_clues {H : Type} {enc : TypeId × Value → H} {W : World} {t e : TypeId} {f0 f1 f2 : Field} {A : Option Addr} {n c fuel : Nat} {x : DataW H × List MemPlace}
    (ht : Tryd.prog.underlying t = some (.slice e)) (he : Tryd.prog.underlying e = some (.struct #[f0, f1, f2]))
    (ce : Tryd.prog.cellsOf e = 3) (o0 : f0.offset = 0) (o1 : f1.offset = 1) (o2 : f2.offset = 2) (c0 : Tryd.prog.cellsOf f0.type = 1) (c1 : Tryd.prog.cellsOf f1.type = 1) (c2 : Tryd.prog.cellsOf f2.type = 1)
    (i0 : Tryd.prog.underlying f0.type = some (.int .i64)) (i1 : Tryd.prog.underlying f1.type = some (.int .i64)) (i2 : Tryd.prog.underlying f2.type = some (.int .i64))
    (hf : DataW.trod enc Tryd.prog W 0 (fun _ => true) true fuel t [.slice A n c] = some x) : ∃ xs : List Clu, xs.length = n ∧ n ≤ 9223372036854775807 ∧ Rd W W.heap.size A (c64 xs) := by
  rcases open_slice ht hf with ⟨hcs, hx⟩ | ⟨a, len', cap', m, nf, D, Pl, hcs, _, hl, hm, hmm, hx, hcell⟩
  · simp at hcs
    obtain ⟨rfl, rfl, rfl⟩ := hcs
    exact ⟨[], rfl, by omega, fun h => absurd h (by simp [flat9])⟩
  · simp at hcs
    obtain ⟨rfl, rfl, rfl⟩ := hcs
    simp only [if_true] at hmm
    unfold maxLen at hm
    obtain ⟨V, hV⟩ := choose_lt (α := Clu) (n := n) (p := fun i v => W.cell? (a.add (i * 3)) = some (.int .i64 v.k) ∧ W.cell? (a.add (i * 3 + 1)) = some (.int .i64 v.a) ∧ W.cell? (a.add (i * 3 + 2)) = some (.int .i64 v.b)) (fun i hi => by
      obtain ⟨cs', h1, h2⟩ := hcell i (by omega)
      rw [ce] at h1
      obtain ⟨_, hlen, hc⟩ := World.cells?_some h1
      obtain ⟨y0, y1, y2, k, _, _, g0, g1, g2⟩ := trod_struct3 he h2
      match cs', hlen with
      | [v0, v1, v2], _ =>
        simp [o0, o1, o2, c0, c1, c2] at g0 g1 g2
        obtain ⟨z0, q0, _, _⟩ := DataW.trod_int i0 g0
        obtain ⟨z1, q1, _, _⟩ := DataW.trod_int i1 g1
        obtain ⟨z2, q2, _, _⟩ := DataW.trod_int i2 g2
        simp at q0 q1 q2
        subst q0 q1 q2
        refine ⟨⟨z0, z1, z2⟩, ?_, ?_, ?_⟩
        · have e := hc 0 (by omega)
          rw [show (a.add (i * 3)).add 0 = a.add (i * 3) from rfl] at e
          exact e
        · have e := hc 1 (by omega)
          rw [Addr.add_add] at e
          exact e
        · have e := hc 2 (by omega)
          rw [Addr.add_add] at e
          exact e)
    refine ⟨(List.range n).map V, by simp, by omega, ?_⟩
    refine cells_rd9 fun k hk => ?_
    have hk2 : k < n := by simpa using hk
    have hg : ((List.range n).map V).getD k clu0 = V k := by simp [List.getD_eq_getElem?_getD, hk2]
    rw [hg]
    exact hV k hk2
end Go.Proofs.YtlhdapeamdpicaaDoor
