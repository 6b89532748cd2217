/- The comparison of two pairs. -/
import Derived.Test.YtmpeembnjpgcgaaSdJ
import Derived.ChangeKeysEq
namespace Go.Proofs.Ytmpeembnjpgcgaa
open Go.ChangeShapes Go.WideShapes Go.ChangeAt Go.RowKit Go.ChangeMaps

theorem one_int : Try.prog.cellsOf 3 = 1 := by kernel_rfl
theorem key_int : Try.prog.plainKey 3 = true := by kernel_rfl
theorem eq_pair (a b c d : Int) (w : World) : (Op.equalIn 10000 42 (.agg #[.int .i64 a, .int .i64 b]) (.agg #[.int .i64 c, .int .i64 d])).run Try.prog w = .ok (a == c && b == d) w := by
  obtain ⟨i0, hi0, hz0, hz1, hz2⟩ := info_parts infoInt
  rw [run_equalIn_array w 9999 (t := 42) (e := 3) (n := 2) _ _ Try.underlying42 hi0, one_int]
  have p : ∀ (x y : Int) (i : Nat) (v : Int) (_ : (#[Value.int .i64 x, Value.int .i64 y] : Array Value)[i]? = some (.int .i64 v)), (part 3 #[.int .i64 x, .int .i64 y] i).run Try.prog w = .ok (.int .i64 v) w := fun x y i v h => run_part_plain w key_int h
  have q : ∀ x y : Int, (Op.equalIn 9999 3 (.int .i64 x) (.int .i64 y)).run Try.prog w = .ok (x == y) w := fun x y => run_equalIn_int w 9998 3 .i64 .i64 x y Try.underlying3
  have e : List.range 2 = [0, 1] := rfl
  rw [e]
  simp only [Op.eqItems, Sem.run_bind, Nat.mul_one, p a b 0 a rfl, p c d 0 c rfl, q, Result.andThen_ok]
  cases h1 : a == c <;> cases h2 : b == d <;> simp [p a b 1 b rfl, p c d 1 d rfl, q, h2]
/-- The first of a pair. -/
theorem first_of (x y : Int) (w : World) : (Instr.index 42 (.agg #[.int .i64 x, .int .i64 y]) (.int .i64 0)).run Try.prog w = .ok (.int .i64 x) w := by
  obtain ⟨i0, hi0, hz0, hz1, hz2⟩ := info_parts infoInt
  have p := run_part_plain (P := Try.prog) w key_int (xs := #[.int .i64 x, .int .i64 y]) (off := 0) (v := .int .i64 x) rfl
  simp [Instr.index, asIntOf, run_underlying Try.underlying42, run_sizeOf w hi0, p]
end Go.Proofs.Ytmpeembnjpgcgaa
