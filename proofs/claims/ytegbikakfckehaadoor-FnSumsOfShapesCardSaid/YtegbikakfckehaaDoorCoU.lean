/- The program's map of needs; the fewest parts. -/
import Derived.Test.YtegbikakfckehaaDoorSgU
import Derived.Test.YtegbikakfckehaaDoorSgP
namespace Go.Proofs.YtegbikakfckehaaDoor
open Go.ChangeShapes Go.WideShapes Go.ChangeAt Go.RowKit Go.Maps

/-- The needs of 0, .., k - 1, as a map reads. -/
noncomputable def ND (s : Int) : Nat → DataW Unit
  | 0 => .map []
  | k + 1 => (ND s k).put (.int .i64 (k : Int)) (.lit (.int .i64 (need s k)))
theorem nd_map (s : Int) (k : Nat) : IsMap (ND s k) := by
  cases k with
  | zero => exact isMap_empty
  | succ k =>
    induction k with
    | zero => exact isMap_empty.put _ _
    | succ k ih => exact IsMap.put ih _ _
theorem nd_at (s : Int) (k j : Nat) (h : j < k) (z : DataW Unit) : (ND s k).atKey (.int .i64 (j : Int)) z = .lit (.int .i64 (need s j)) := by
  induction k with
  | zero => omega
  | succ k ih =>
    rw [ND]
    by_cases e : j = k
    · subst e
      exact atKey_put_same (nd_map s j) (by simp [WideAt.IsKeyLit]) _ _
    · rw [atKey_put_other (by simp; omega)]
      exact ih (by omega)
theorem nd_gen (s : Int) (k : Nat) : gND (num s) k = ND s k := by
  induction k with
  | zero => rfl
  | succ k ih => rw [gND, ND, ih, gNeed_num]
theorem needsUpTo_any (s : Int) (N base0 g0 c0 : Nat) (w : World) (h1 : 3 ≤ s) (h2 : s ≤ 24) (hN : N ≤ 3000) (hnb : Row w base0 g0 ((pl s N).toNat + 1) c0 (fun j => num s (j : Int))) (hT : TabAt 0 Lib.deBruijn32tab w) (hg : 0 < w.heap.size) :
    Calls Tryd.prog 43 #[.slice (some ⟨g0, 0, none⟩) ((pl s N).toNat + 1) c0, .int .i64 N] w fun e w' => (∃ b, e = .returned (.map (some b)) ∧ w.heap.size ≤ b ∧ w'.ownsMap Tryd.prog 3 (plainElem Tryd.prog 3) b (N + 1) (ND s (N + 1))) ∧ Below w.heap.size w w' := by
  have hL := lst_num s N h1 (by omega)
  have p1 := pl_77 s N h1 (by omega) (by omega)
  have h := gneedsUpTo_any (num s) N base0 g0 c0 w (sq_num s h1) (by omega) (fun m hm => by rw [gNeed_num]; have := need_sides s m h1 h2 (by omega) (by omega); omega) hN (by rw [hL]; exact hnb) hT hg
  rw [hL, nd_gen] at h
  exact h
end Go.Proofs.YtegbikakfckehaaDoor
