/- Chapter 5: the last of a list; the laws LongestRun, MostSquareRectangle. -/
import Derived.Test.YtkhjeleoppdjgabRuF
import Derived.BigRegion
namespace Go.Proofs.Ytkhjeleoppdjgab
open Go.ChangeShapes Go.WideShapes Go.ChangeAt Go.RowKit

/-- The last of a list, for a program's text. -/
theorem lastPair_any (A : Option Addr) (c lo hi M : Nat) (xs : List (Int × Int)) (x : Int × Int) (w : World) (hl : xs.length = M + 1) (hx : xs[M]? = some x) (hm : M ≤ 1000000) (ho : Own w lo hi A (prs xs)) (hh : hi ≤ w.heap.size) :
    Calls Try.prog 77 #[.slice A (M + 1) c] w fun e w' => e = .returned (.agg #[.int .i64 x.1, .int .i64 x.2]) ∧ Below w.heap.size w w' := by
  obtain ⟨g, o, rfl, _, hg, c0, c1⟩ := ho.pair_ (k := M) (by omega)
  have e : xs[M]'(by omega) = x := by
    rw [List.getElem?_eq_getElem (by omega)] at hx
    injection hx
  rw [e] at c0 c1
  obtain ⟨a, b⟩ := x
  simp only at c0 c1 ⊢
  clear e hx ho hl
  have hgw : g < w.heap.size := by omega
  have d0 : (w.alloc (.cells #[.int .i64 0, .int .i64 0] 66)).cell? ⟨g, o + M * 2, none⟩ = some (.int .i64 a) := (((Below.refl w.heap.size w).alloc (Nat.le_refl _) _).cell (p := ⟨g, o + M * 2, none⟩) hgw).trans c0
  have d1 : (w.alloc (.cells #[.int .i64 0, .int .i64 0] 66)).cell? ⟨g, o + M * 2 + 1, none⟩ = some (.int .i64 b) := (((Below.refl w.heap.size w).alloc (Nat.le_refl _) _).cell (p := ⟨g, o + M * 2 + 1, none⟩) hgw).trans c1
  go_enter Try.func77, Try.ntmps77
  go_wp2
  exact bodyPost_ret (v := .agg #[.int .i64 a, .int .i64 b]) (by simp [results, Try.results77, go_sem]) rfl ⟨rfl, (Below.refl _ _).alloc (Nat.le_refl _) _⟩
theorem last_of {xs : List (Int × Int)} (h : xs ≠ []) : ∃ M x, xs.length = M + 1 ∧ xs[M]? = some x := by
  have hl : 0 < xs.length := List.length_pos_iff.2 h
  exact ⟨xs.length - 1, xs[xs.length - 1], by omega, List.getElem?_eq_getElem (by omega)⟩
/-- The longest run. -/
structure LastR (n : Int) (M : Nat) (x : Int × Int) : Prop where
  len : (runsL n).length = M + 1
  at_ : (runsL n)[M]? = some x
  le : M ≤ 1500
theorem lastR_ex (n : Int) (h0 : 1 ≤ n) (h1 : n ≤ 1000000) : ∃ M x, LastR n M x := by
  obtain ⟨M, x, h2, h3⟩ := last_of (runs_ne n h0)
  have := runs_len n h0 h1
  exact ⟨M, x, h2, h3, by omega⟩
end Go.Proofs.Ytkhjeleoppdjgab
