/- Polygonal numbers as rising numbers: the counts are the same. -/
import Derived.Test.YtegbikakfckehaaDoorSgM
import Derived.Test.YtegbikakfckehaaDoorMb
namespace Go.Proofs.YtegbikakfckehaaDoor
theorem gW_num (s : Int) (k : Nat) : ∀ (i : Nat) (m : Int), gW (num s) k i m = W s k i m := by
  induction k with
  | zero => intro i m; rw [gW_00, W_00]
  | succ k ih =>
    intro i
    induction i with
    | zero => intro m; rw [gW_k0, W_k0]
    | succ i ih2 => intro m; rw [gW_kk, W_kk, ih, ih2]
theorem gRep_num (s : Int) (c : Nat) (m : Int) : gRep (num s) c m = Rep s c m := by
  unfold gRep Rep
  congr
  funext k
  rw [gW_num]
theorem gNeed_num (s m : Int) : gNeed (num s) m = need s m := by
  simp only [gNeed, need, gRep_num]
end Go.Proofs.YtegbikakfckehaaDoor
