/- The law FnExactCountTetrahedra: the program counts lists of tetrahedra as the specification does, whatever the arguments. No condition. -/
import Derived.Test.YtaefmlngnfgkhaaDoorSoT
namespace Go.Proofs.YtaefmlngnfgkhaaDoor
open Go.ChangeShapes Go.WideShapes Go.ChangeAt Go.RowKit

/-- What so many parts make at most. -/
theorem gW_most (f : Int → Int) (hs : Sq f) (k : Nat) : ∀ (i : Nat) (m : Int), 0 < gW f k i m → m ≤ f (k : Int) * (i : Int) := by
  induction k with
  | zero =>
    intro i m h
    rw [gW_00] at h
    split at h
    · rename_i h1; rw [h1.1, h1.2]; simp
    · omega
  | succ k ih =>
    intro i
    induction i with
    | zero =>
      intro m h
      rw [gW_k0] at h
      split at h
      · omega
      · omega
    | succ i ih2 =>
      intro m h
      rw [gW_kk] at h
      have hu := hs.up (k : Int) (by omega)
      have e : ((k + 1 : Nat) : Int) = (k : Int) + 1 := by omega
      rw [e] at ih2 ⊢
      by_cases h1 : 0 < gW f k (i + 1) m
      · have h2 := ih (i + 1) m h1
        have h3 := Int.mul_le_mul_of_nonneg_right (c := ((i + 1 : Nat) : Int)) (Int.le_of_lt hu) (by omega)
        omega
      · have h2 := ih2 (m - f ((k : Int) + 1)) (by omega)
        have h3 : f ((k : Int) + 1) * ((i + 1 : Nat) : Int) = f ((k : Int) + 1) * (i : Int) + f ((k : Int) + 1) := by
          push_cast
          rw [Int.mul_add, Int.mul_one]
        omega
theorem gW_few (f : Int → Int) (k i : Nat) (m : Int) (hk : k ≤ 30) (hi : i ≤ 5) : gW f k i m ≤ 28629151 := by
  have h1 := gW_bound f k i m
  have h2 : (k + 1) ^ i ≤ 31 ^ i := Nat.pow_le_pow_left (by omega) i
  have h3 : 31 ^ i ≤ 31 ^ 5 := Nat.pow_le_pow_right (by omega) hi
  have h4 : 31 ^ 5 = 28629151 := by decide
  omega
theorem pyr3_few (k : Int) (h3 : 0 ≤ k) (h4 : k ≤ 30) : 0 ≤ pyr 3 k ∧ pyr 3 k ≤ 4960 := by
  have a := sq3.nn h3
  have b := sq3.le h3 h4
  have c : pyr 3 30 = 4960 := by decide
  omega
end Go.Proofs.YtaefmlngnfgkhaaDoor
