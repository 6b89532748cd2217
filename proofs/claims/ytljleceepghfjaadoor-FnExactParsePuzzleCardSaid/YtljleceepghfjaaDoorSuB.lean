/- What the sums' laws take from chapter 1: rules of polygonal numbers, the list of them; bounds of chapter 2. -/
import Derived.Test.YtljleceepghfjaaDoorMa
import Derived.Test.YtljleceepghfjaaDoorImC
import Derived.Test.YtljleceepghfjaaDoorSuM
import Derived.OwnWalk
namespace Go.Proofs.YtljleceepghfjaaDoor
open Go.ChangeShapes Go.WideShapes Go.ChangeAt Go.RowKit

theorem snoc_i64 (xs : List Int) (x : Int) : i64s xs ++ [.int .i64 x] = i64s (xs ++ [x]) := by simp
theorem polyRule_bds (s k : Int) (h1 : 3 ≤ s) (h2 : s ≤ 24) (h3 : -3000000 ≤ k) (h4 : k ≤ 3000000) : RuleBds 0 (4 - s) (s - 2) k (num s k) := by
  obtain ⟨a0, a1, b0, b1, c0, c1, d0⟩ := num_bds s k h1 h2 h3 h4
  have e1 := num_twice s k
  have e2 : (4 - s) * k = -((s - 4) * k) := by grind
  constructor <;> omega
theorem infoInt : (Tryd.prog.info? 3).map (fun i => (i.zero, i.size, i.bytes)) = some (some (.int .i64 0), 1, 8) := by kernel_rfl

/-- The polygonal numbers of the places 1, .., n. -/
def nums (s : Int) (n : Nat) : List Int := (List.range n).map fun (j : Nat) => num s ((j : Int) + 1)
theorem nums_len (s : Int) (n : Nat) : (nums s n).length = n := by simp [nums]
theorem nums_succ (s : Int) (n : Nat) : nums s (n + 1) = nums s n ++ [num s ((n : Int) + 1)] := by simp [nums, List.range_succ]
theorem nums_app (s : Int) (n : Nat) : i64s (nums s n) ++ [.int .i64 (num s ((n : Int) + 1))] = i64s (nums s (n + 1)) := by simp [nums_succ]



end Go.Proofs.YtljleceepghfjaaDoor
