/- The functions of chapter 3 that take numbers, each with one contract: whatever the arguments, what it answers is said by plain functions. No condition. -/
import Derived.Test.YtppdjjdejggjaaaAnE
import Derived.Test.YtppdjjdejggjaaaSoB
import Derived.Test.YtppdjjdejggjaaaSoC
import Derived.Test.YtppdjjdejggjaaaSoD
namespace Go.Proofs.Ytppdjjdejggjaaa
open Go.ChangeShapes Go.WideShapes Go.ChangeAt Go.RowKit

theorem spec_OctahedronNumber_any (k : Int) (w : World) :
    Calls Try.prog 42 #[.int .i64 k] w fun e w' => e = .returned (.tuple #[.int .i64 (ocV k), .bool (ksB k)]) ∧ Below w.heap.size w w' := by
  by_cases h : k < 0 ∨ 2000 < k
  · have e : ksB k = false := by simp [ksB]; omega
    rw [show ocV k = 0 from by simp [ocV, e], e]
    exact spec_OctahedronNumber_no k w h
  · have e : ksB k = true := by simp [ksB]; omega
    rw [show ocV k = k * (2 * k * k + 1) / 3 from by simp [ocV, e], e]
    exact spec_OctahedronNumber_yes k w (by omega) (by omega)
theorem spec_CubeNumber_any (k : Int) (w : World) :
    Calls Try.prog 44 #[.int .i64 k] w fun e w' => e = .returned (.tuple #[.int .i64 (cuW k), .bool (ksB k)]) ∧ Below w.heap.size w w' := by
  by_cases h : k < 0 ∨ 2000 < k
  · have e : ksB k = false := by simp [ksB]; omega
    rw [show cuW k = 0 from by simp [cuW, e], e]
    exact spec_CubeNumber_no k w h
  · have e : ksB k = true := by simp [ksB]; omega
    rw [show cuW k = k * k * k from by simp [cuW, e], e]
    exact spec_CubeNumber_yes k w (by omega) (by omega)
theorem spec_StarNumber_any (k : Int) (w : World) :
    Calls Try.prog 46 #[.int .i64 k] w fun e w' => e = .returned (.tuple #[.int .i64 (srV k), .bool (ksB k)]) ∧ Below w.heap.size w w' := by
  by_cases h : k < 0 ∨ 2000 < k
  · have e : ksB k = false := by simp [ksB]; omega
    rw [show srV k = 0 from by simp [srV, e], e]
    exact spec_StarNumber_no k w h
  · have e : ksB k = true := by simp [ksB]; omega
    rw [show srV k = k * (2 * k * k - 1) from by simp [srV, e], e]
    exact spec_StarNumber_yes k w (by omega) (by omega)
theorem spec_SumOfSquares_any (k : Int) (w : World) :
    Calls Try.prog 48 #[.int .i64 k] w fun e w' => e = .returned (.tuple #[.int .i64 (sqV k), .bool (ksB k)]) ∧ Below w.heap.size w w' := by
  by_cases h : k < 0 ∨ 2000 < k
  · have e : ksB k = false := by simp [ksB]; omega
    rw [show sqV k = 0 from by simp [sqV, e], e]
    exact spec_SumOfSquares_no k w h
  · have e : ksB k = true := by simp [ksB]; omega
    rw [show sqV k = pyr 4 k from by simp [sqV, e], e]
    exact spec_SumOfSquares_yes k w (by omega) (by omega)
theorem spec_SumOfCubes_any (k : Int) (w : World) :
    Calls Try.prog 50 #[.int .i64 k] w fun e w' => e = .returned (.tuple #[.int .i64 (cbV k), .bool (ksB k)]) ∧ Below w.heap.size w w' := by
  by_cases h : k < 0 ∨ 2000 < k
  · have e : ksB k = false := by simp [ksB]; omega
    rw [show cbV k = 0 from by simp [cbV, e], e]
    exact spec_SumOfCubes_no k w h
  · have e : ksB k = true := by simp [ksB]; omega
    rw [show cbV k = num 3 k * num 3 k from by simp [cbV, e], e]
    exact spec_SumOfCubes_yes k w (by omega) (by omega)
theorem spec_CentredCube_any (k : Int) (w : World) :
    Calls Try.prog 52 #[.int .i64 k] w fun e w' => e = .returned (.tuple #[.int .i64 (ccV k), .bool (kcB k)]) ∧ Below w.heap.size w w' := by
  by_cases h : k < 1 ∨ 2000 < k
  · have e : kcB k = false := by simp [kcB]; omega
    rw [show ccV k = 0 from by simp [ccV, e], e]
    exact spec_CentredCube_no k w h
  · have e : kcB k = true := by simp [kcB]; omega
    rw [show ccV k = k * k * k + (k - 1) * (k - 1) * (k - 1) from by simp [ccV, e], e]
    exact spec_CentredCube_yes k w (by omega) (by omega)
theorem spec_PyramidNumber_any (s k : Int) (w : World) :
    Calls Try.prog 61 #[.int .i64 s, .int .i64 k] w fun e w' => e = .returned (.tuple #[.int .i64 (pyV s k), .bool (pyB s k)]) ∧ Below w.heap.size w w' := by
  by_cases h : (s < 3 ∨ 24 < s) ∨ (k < 0 ∨ 2000 < k)
  · have e : pyB s k = false := by simp [pyB]; omega
    rw [show pyV s k = 0 from by simp [pyV, e], e]
    exact spec_PyramidNumber_no s k w h
  · have e : pyB s k = true := by simp [pyB]; omega
    rw [show pyV s k = pyr s k from by simp [pyV, e], e]
    exact spec_PyramidNumber_yes s k w (by omega) (by omega) (by omega) (by omega)
theorem spec_SimplexNumber_any (d k : Int) (w : World) :
    Calls Try.prog 55 #[.int .i64 d, .int .i64 k] w fun e w' => e = .returned (.tuple #[.int .i64 (smV d k), .bool (smB d k)]) ∧ Below w.heap.size w w' := by
  by_cases h : (d < 1 ∨ 8 < d) ∨ (k < 0 ∨ 2000 < k)
  · have e : smB d k = false := by simp [smB]; omega
    rw [show smV d k = 0 from by simp [smV, e], e]
    exact spec_SimplexNumber_no d k w h
  · obtain ⟨D, rfl⟩ := Int.eq_ofNat_of_zero_le (show 0 ≤ d by omega)
    by_cases c : sx k D ≤ 1000000000000
    · have e : smB (D : Int) k = true := by simp [smB, c]; omega
      rw [show smV (D : Int) k = sx k D from by simp [smV, e], e]
      exact spec_SimplexNumber_yes D k w (by omega) (by omega) (by omega) (by omega) c
    · have e : smB (D : Int) k = false := by simp [smB]; omega
      rw [show smV (D : Int) k = 0 from by simp [smV, e], e]
      exact spec_SimplexNumber_miss D k w (by omega) (by omega) (by omega) (by omega) (by omega)
theorem spec_SimplexPlace_any (d n : Int) (w : World) :
    Calls Try.prog 57 #[.int .i64 d, .int .i64 n] w fun e w' => e = .returned (.tuple #[.int .i64 (spV d n), .bool (spB d n)]) ∧ Below w.heap.size w w' := by
  by_cases h : (d < 1 ∨ 8 < d) ∨ (n < 0 ∨ 1000000000000 < n)
  · have e : spB d n = false := by simp [spB, dsB]; omega
    rw [show spV d n = 0 from by simp [spV, e], e]
    exact spec_SimplexPlace_no d n w h
  · obtain ⟨i, rfl⟩ : ∃ i : Nat, d = ((i + 1 : Nat) : Int) := ⟨(d - 1).toNat, by omega⟩
    have es : dsB ((i + 1 : Nat) : Int) n = true := by simp only [dsB, decide_eq_true_eq]; omega
    by_cases c : sx (sl i n 2000 : Nat) (i + 1) = n
    · have e : spB ((i + 1 : Nat) : Int) n = true := by simp only [spB, es, Int.toNat_natCast, Nat.add_sub_cancel, c, decide_true, Bool.and_self]
      rw [show spV ((i + 1 : Nat) : Int) n = (sl i n 2000 : Nat) from by simp only [spV, e, cond_true, Int.toNat_natCast, Nat.add_sub_cancel], e]
      exact spec_SimplexPlace_yes i n w (by omega) (by omega) (by omega) c
    · have e : spB ((i + 1 : Nat) : Int) n = false := by simp only [spB, es, Int.toNat_natCast, Nat.add_sub_cancel, c, decide_false, Bool.and_false]
      rw [show spV ((i + 1 : Nat) : Int) n = 0 from by simp only [spV, e, cond_false], e]
      exact spec_SimplexPlace_miss i n w (by omega) (by omega) (by omega) c
theorem impl_OctahedronNumber_any (k : Int) (w : World) :
    Calls Try.prog 41 #[.int .i64 k] w fun e w' => e = .returned (.tuple #[.int .i64 (ocV k), .bool (ksB k)]) ∧ Below w.heap.size w w' := by
  by_cases h : k < 0 ∨ 2000 < k
  · have e : ksB k = false := by simp [ksB]; omega
    rw [show ocV k = 0 from by simp [ocV, e], e]
    exact impl_OctahedronNumber_no k w h
  · have e : ksB k = true := by simp [ksB]; omega
    rw [show ocV k = k * (2 * k * k + 1) / 3 from by simp [ocV, e], e]
    exact impl_OctahedronNumber_yes k w (by omega) (by omega)
theorem impl_CubeNumber_any (k : Int) (w : World) :
    Calls Try.prog 43 #[.int .i64 k] w fun e w' => e = .returned (.tuple #[.int .i64 (cuW k), .bool (ksB k)]) ∧ Below w.heap.size w w' := by
  by_cases h : k < 0 ∨ 2000 < k
  · have e : ksB k = false := by simp [ksB]; omega
    rw [show cuW k = 0 from by simp [cuW, e], e]
    exact impl_CubeNumber_no k w h
  · have e : ksB k = true := by simp [ksB]; omega
    rw [show cuW k = k * k * k from by simp [cuW, e], e]
    exact impl_CubeNumber_yes k w (by omega) (by omega)
theorem impl_StarNumber_any (k : Int) (w : World) :
    Calls Try.prog 45 #[.int .i64 k] w fun e w' => e = .returned (.tuple #[.int .i64 (srV k), .bool (ksB k)]) ∧ Below w.heap.size w w' := by
  by_cases h : k < 0 ∨ 2000 < k
  · have e : ksB k = false := by simp [ksB]; omega
    rw [show srV k = 0 from by simp [srV, e], e]
    exact impl_StarNumber_no k w h
  · have e : ksB k = true := by simp [ksB]; omega
    rw [show srV k = k * (2 * k * k - 1) from by simp [srV, e], e]
    exact impl_StarNumber_yes k w (by omega) (by omega)
theorem impl_SumOfSquares_any (k : Int) (w : World) :
    Calls Try.prog 47 #[.int .i64 k] w fun e w' => e = .returned (.tuple #[.int .i64 (sqV k), .bool (ksB k)]) ∧ Below w.heap.size w w' := by
  by_cases h : k < 0 ∨ 2000 < k
  · have e : ksB k = false := by simp [ksB]; omega
    rw [show sqV k = 0 from by simp [sqV, e], e]
    exact impl_SumOfSquares_no k w h
  · have e : ksB k = true := by simp [ksB]; omega
    rw [show sqV k = pyr 4 k from by simp [sqV, e], e]
    exact impl_SumOfSquares_yes k w (by omega) (by omega)
theorem impl_SumOfCubes_any (k : Int) (w : World) :
    Calls Try.prog 49 #[.int .i64 k] w fun e w' => e = .returned (.tuple #[.int .i64 (cbV k), .bool (ksB k)]) ∧ Below w.heap.size w w' := by
  by_cases h : k < 0 ∨ 2000 < k
  · have e : ksB k = false := by simp [ksB]; omega
    rw [show cbV k = 0 from by simp [cbV, e], e]
    exact impl_SumOfCubes_no k w h
  · have e : ksB k = true := by simp [ksB]; omega
    rw [show cbV k = num 3 k * num 3 k from by simp [cbV, e], e]
    exact impl_SumOfCubes_yes k w (by omega) (by omega)
theorem impl_CentredCube_any (k : Int) (w : World) :
    Calls Try.prog 51 #[.int .i64 k] w fun e w' => e = .returned (.tuple #[.int .i64 (ccV k), .bool (kcB k)]) ∧ Below w.heap.size w w' := by
  by_cases h : k < 1 ∨ 2000 < k
  · have e : kcB k = false := by simp [kcB]; omega
    rw [show ccV k = 0 from by simp [ccV, e], e]
    exact impl_CentredCube_no k w h
  · have e : kcB k = true := by simp [kcB]; omega
    rw [show ccV k = k * k * k + (k - 1) * (k - 1) * (k - 1) from by simp [ccV, e], e]
    exact impl_CentredCube_yes k w (by omega) (by omega)
theorem impl_PyramidNumber_any (s k : Int) (w : World) :
    Calls Try.prog 53 #[.int .i64 s, .int .i64 k] w fun e w' => e = .returned (.tuple #[.int .i64 (pyV s k), .bool (pyB s k)]) ∧ Below w.heap.size w w' := by
  by_cases h : (s < 3 ∨ 24 < s) ∨ (k < 0 ∨ 2000 < k)
  · have e : pyB s k = false := by simp [pyB]; omega
    rw [show pyV s k = 0 from by simp [pyV, e], e]
    exact impl_PyramidNumber_no s k w h
  · have e : pyB s k = true := by simp [pyB]; omega
    rw [show pyV s k = pyr s k from by simp [pyV, e], e]
    exact impl_PyramidNumber_yes s k w (by omega) (by omega) (by omega) (by omega)
theorem impl_SimplexNumber_any (d k : Int) (w : World) :
    Calls Try.prog 54 #[.int .i64 d, .int .i64 k] w fun e w' => e = .returned (.tuple #[.int .i64 (smV d k), .bool (smB d k)]) ∧ Below w.heap.size w w' := by
  by_cases h : (d < 1 ∨ 8 < d) ∨ (k < 0 ∨ 2000 < k)
  · have e : smB d k = false := by simp [smB]; omega
    rw [show smV d k = 0 from by simp [smV, e], e]
    exact impl_SimplexNumber_no d k w h
  · obtain ⟨D, rfl⟩ := Int.eq_ofNat_of_zero_le (show 0 ≤ d by omega)
    by_cases c : sx k D ≤ 1000000000000
    · have e : smB (D : Int) k = true := by simp [smB, c]; omega
      rw [show smV (D : Int) k = sx k D from by simp [smV, e], e]
      exact impl_SimplexNumber_yes D k w (by omega) (by omega) (by omega) (by omega) c
    · have e : smB (D : Int) k = false := by simp [smB]; omega
      rw [show smV (D : Int) k = 0 from by simp [smV, e], e]
      exact impl_SimplexNumber_miss D k w (by omega) (by omega) (by omega) (by omega) (by omega)
theorem impl_SimplexPlace_any (d n : Int) (w : World) :
    Calls Try.prog 56 #[.int .i64 d, .int .i64 n] w fun e w' => e = .returned (.tuple #[.int .i64 (spV d n), .bool (spB d n)]) ∧ Below w.heap.size w w' := by
  by_cases h : (d < 1 ∨ 8 < d) ∨ (n < 0 ∨ 1000000000000 < n)
  · have e : spB d n = false := by simp [spB, dsB]; omega
    rw [show spV d n = 0 from by simp [spV, e], e]
    exact impl_SimplexPlace_no d n w h
  · obtain ⟨i, rfl⟩ : ∃ i : Nat, d = ((i + 1 : Nat) : Int) := ⟨(d - 1).toNat, by omega⟩
    have es : dsB ((i + 1 : Nat) : Int) n = true := by simp only [dsB, decide_eq_true_eq]; omega
    by_cases c : sx (sl i n 2000 : Nat) (i + 1) = n
    · have e : spB ((i + 1 : Nat) : Int) n = true := by simp only [spB, es, Int.toNat_natCast, Nat.add_sub_cancel, c, decide_true, Bool.and_self]
      rw [show spV ((i + 1 : Nat) : Int) n = (sl i n 2000 : Nat) from by simp only [spV, e, cond_true, Int.toNat_natCast, Nat.add_sub_cancel], e]
      exact impl_SimplexPlace_yes i n w (by omega) (by omega) (by omega) c
    · have e : spB ((i + 1 : Nat) : Int) n = false := by simp only [spB, es, Int.toNat_natCast, Nat.add_sub_cancel, c, decide_false, Bool.and_false]
      rw [show spV ((i + 1 : Nat) : Int) n = 0 from by simp only [spV, e, cond_false], e]
      exact impl_SimplexPlace_miss i n w (by omega) (by omega) (by omega) c
end Go.Proofs.Ytppdjjdejggjaaa
