/- The laws FnExactTwoShapes and FnExactCountTwoShapes: the program's pairs of two shapes are the specification's, whatever the arguments. No condition. -/
import Derived.Test.YtiloljldefodkaaDoorSuT
import Derived.Deep.QuietTactic
import Derived.BigQuiet
namespace Go.Proofs.YtiloljldefodkaaDoor
open Go.ChangeShapes Go.WideShapes Go.ChangeAt Go.RowKit

def hp1 : List (Int × Int) → Int
  | [] => 0
  | p :: _ => p.1
def hp2 : List (Int × Int) → Int
  | [] => 0
  | p :: _ => p.2
theorem hp_app (P Q : List (Int × Int)) (h : P ≠ []) : hp1 (P ++ Q) = hp1 P ∧ hp2 (P ++ Q) = hp2 P := by
  cases P with
  | nil => exact absurd rfl h
  | cons x P => exact ⟨rfl, rfl⟩
theorem hp_len (P : List (Int × Int)) (h : P = []) : hp1 P = 0 ∧ hp2 P = 0 ∧ (P.length : Int) = 0 := by subst h; exact ⟨rfl, rfl, rfl⟩
/-- The pairs when i places are over. -/
noncomputable def qs (a b : Int) (N K i : Nat) : List (Int × Int) := pairs b N (upto (fun t => item a N (K + 1 - 1 - t)) i)
theorem qs_zero (a b : Int) (N K : Nat) : qs a b N K 0 = [] := rfl
theorem qs_all (a b : Int) (N K : Nat) : qs a b N K (K + 1) = pairs b N (came a N K) := rfl
theorem qs_len (a b : Int) (N K i : Nat) : (qs a b N K i).length ≤ i := by
  have := pairs_len b N (upto (fun t => item a N (K + 1 - 1 - t)) i)
  rw [upto_length] at this
  exact this
theorem qs_hit (a b : Int) (N K i j : Nat) (hj : K + 1 - 1 - i = j) (h : j ≤ 100 ∧ 0 ≤ num a j ∧ num a j ≤ N) (hq : num b (pl b (N - num a j)) = N - num a j) : qs a b N K (i + 1) = qs a b N K i ++ [((j : Int), pl b (N - num a j))] := by
  unfold qs
  rw [upto_succ, hj]
  have e := item_at a N j h
  have := pairs_hit b N (upto (fun t => item a N (K + 1 - 1 - t)) i) (item a N j) (by rw [e]; exact hq)
  rw [this, e]
theorem qs_miss (a b : Int) (N K i j : Nat) (hj : K + 1 - 1 - i = j) (h : j ≤ 100 ∧ 0 ≤ num a j ∧ num a j ≤ N) (hq : ¬ num b (pl b (N - num a j)) = N - num a j) : qs a b N K (i + 1) = qs a b N K i := by
  unfold qs
  rw [upto_succ, hj]
  have e := item_at a N j h
  exact pairs_miss b N (upto (fun t => item a N (K + 1 - 1 - t)) i) (item a N j) (by rw [e]; exact hq)

end Go.Proofs.YtiloljldefodkaaDoor
