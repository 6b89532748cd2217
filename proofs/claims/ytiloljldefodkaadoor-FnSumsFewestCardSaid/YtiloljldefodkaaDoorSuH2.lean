/- The program's masks are asked for a count. -/
import Derived.Test.YtiloljldefodkaaDoorMc
namespace Go.Proofs.YtiloljldefodkaaDoor
open Go.ChangeShapes Go.WideShapes Go.ChangeAt Go.RowKit
theorem bit_at (x i : Nat) (hx : x < 4294967296) : (bits BinOp.and IntKind.u32 ((x : Int) / 2 ^ i) 1 == 1) = x.testBit i := by
  have e : ((x : Int) / 2 ^ i) = ((x / 2 ^ i : Nat) : Int) := by push_cast; rfl
  rw [e]
  have h1 : x / 2 ^ i < 4294967296 := Nat.lt_of_le_of_lt (Nat.div_le_self _ _) hx
  generalize hy : x / 2 ^ i = y at *
  have e2 : bits BinOp.and IntKind.u32 (y : Int) 1 = ((y % 2 : Nat) : Int) := by
    have h2 : (BitVec.ofInt 32 (y : Int)).toNat = y := by
      rw [BitVec.ofInt_natCast, BitVec.toNat_ofNat]; exact Nat.mod_eq_of_lt (by omega)
    show IntKind.u32.wrap ((BitVec.ofInt 32 (y : Int) &&& BitVec.ofInt 32 1).toNat : Int) = _
    have h3 : (BitVec.ofInt 32 1).toNat = 1 := by decide
    rw [BitVec.toNat_and, h2, h3, Nat.and_one_is_mod]
    have e3 : ∀ n : Int, IntKind.u32.wrap n = n % 4294967296 := fun n => by simp [IntKind.wrap, IntKind.signed, IntKind.bits]
    rw [e3]
    omega
  rw [e2, Nat.testBit_eq_decide_div_mod_eq, hy]
  rcases Nat.mod_two_eq_zero_or_one y with h | h <;> simp [h]
theorem has_any (x i : Nat) (w : World) (hx : x < 4294967296) (hi : i ≤ 24) :
    Calls Tryd.prog 70 #[.int .u32 x, .int .i64 i] w fun e w' => e = .returned (.bool (x.testBit i)) ∧ w = w' := by
  have i1 : (0 : Int) ≤ (i : Int) := by omega
  have i2 : (i : Int) ≤ 24 := by omega
  go_enter Tryd.func70, Tryd.ntmps70
  go_wp2
  go_ret
  refine ⟨?_, rfl⟩
  show Ending.returned (.bool (bits BinOp.and IntKind.u32 ((x : Int) / 2 ^ i) 1 == 1)) = _
  rw [bit_at x i hx]
end Go.Proofs.YtiloljldefodkaaDoor
