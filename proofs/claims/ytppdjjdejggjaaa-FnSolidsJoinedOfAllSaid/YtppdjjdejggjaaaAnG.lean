/- The law FnSolidsJoinedOfAll, whatever the arguments: its cases joined. No condition. -/
import Derived.Test.YtppdjjdejggjaaaAnGa
import Derived.Test.YtppdjjdejggjaaaAnGb
import Derived.Test.YtppdjjdejggjaaaAnGc
namespace Go.Proofs.Ytppdjjdejggjaaa
open Go.ChangeShapes Go.WideShapes Go.ChangeAt Go.RowKit

theorem walk_SolidsJoinedOfAll (k d m e n : Int) (w : World) :
    Calls Try.prog 6 #[.int .i64 k, .int .i64 d, .int .i64 m, .int .i64 e, .int .i64 n] w fun e w' => e = .returned (.bool true) ∧ Below w.heap.size w w' := by
  rcases Bool.eq_false_or_eq_true (ksB k) with h | h
  · rcases Int.lt_or_le 0 k with a | a
    · exact solids_more k d m e n w h a
    · obtain rfl : k = 0 := by have := (ks_iff.1 h).1; omega
      exact solids_zero d m e n w h (by simp [kcB])
  · refine solids_no k d m e n w h ?_
    simp [ksB] at h
    simp [kcB]
    omega
end Go.Proofs.Ytppdjjdejggjaaa
