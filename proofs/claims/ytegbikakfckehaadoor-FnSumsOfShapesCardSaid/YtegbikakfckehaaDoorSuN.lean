/- Counts of parts: the program's, over the polygonal numbers. -/
import Derived.Test.YtegbikakfckehaaDoorSuL
import Derived.Test.YtegbikakfckehaaDoorSgN
import Derived.Test.YtegbikakfckehaaDoorSgP
namespace Go.Proofs.YtegbikakfckehaaDoor
open Go.ChangeShapes Go.WideShapes Go.ChangeAt Go.RowKit

theorem waysNum_any (s : Int) (N M base0 g0 c0 : Nat) (w : World) (h1 : 3 ≤ s) (h2 : s ≤ 24) (hN : N ≤ 3000) (hM : M ≤ 24) (hnb : Row w base0 g0 ((pl s N).toNat + 1) c0 (fun j => num s (j : Int))) :
    Calls Tryd.prog 39 #[.slice (some ⟨g0, 0, none⟩) ((pl s N).toNat + 1) c0, .int .i64 N, .int .i64 M] w fun e w' => (∃ g, e = .returned (.slice (some ⟨g, 0, none⟩) (M + 1) (M + 1)) ∧ Row w' w.heap.size g (M + 1) (M + 1) (fun j => (W s (pl s N).toNat j N : Int))) ∧ Below w.heap.size w w' := by
  have p0 := pl_nn s N h1 (by omega)
  have p1 := pl_77 s N h1 (by omega) (by omega)
  have hL := lst_num s N h1 (by omega)
  have h := waysByParts_any (num s) (sq_num s h1) N M (pl s N).toNat base0 g0 c0 w hN hM (by omega) (by omega) (fun k i m hk hi hm => by rw [gW_num]; exact W_small s h1 k i m (by omega) (by omega) (by omega)) hnb
  simp only [gW_num] at h
  exact h
end Go.Proofs.YtegbikakfckehaaDoor
