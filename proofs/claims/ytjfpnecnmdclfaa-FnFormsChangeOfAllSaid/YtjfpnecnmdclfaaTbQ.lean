/- Plain facts of chapter 8: whole numbers as two times 64 binary digits. No program in sight. -/
import Derived.Test.YtjfpnecnmdclfaaMb
namespace Go.Proofs.Ytjfpnecnmdclfaa

/-- The upper and the lower 64 digits. -/
def hi8 (v : Int) : Int := (v / 18446744073709551616) % 18446744073709551616
def lo8 (v : Int) : Int := v % 18446744073709551616
theorem hi8_bds (v : Int) : 0 ≤ hi8 v ∧ hi8 v < 18446744073709551616 := by unfold hi8; omega
theorem lo8_bds (v : Int) : 0 ≤ lo8 v ∧ lo8 v < 18446744073709551616 := by unfold lo8; omega
theorem lo8_nat (v : Int) : ∃ x : Nat, lo8 v = (x : Int) ∧ x < 18446744073709551616 := ⟨(lo8 v).toNat, by have := lo8_bds v; omega, by have := lo8_bds v; omega⟩
theorem hi8_nat (v : Int) : ∃ x : Nat, hi8 v = (x : Int) ∧ x < 18446744073709551616 := ⟨(hi8 v).toNat, by have := hi8_bds v; omega, by have := hi8_bds v; omega⟩
theorem lo8_add (u v : Int) : lo8 (u + v) = (lo8 u + lo8 v) % 18446744073709551616 := by unfold lo8; omega
theorem hi8_add (u v : Int) : hi8 (u + v) = (hi8 u + hi8 v + (lo8 u + lo8 v) / 18446744073709551616) % 18446744073709551616 := by unfold hi8 lo8; omega
theorem lo8_sub (u v : Int) : lo8 (u - v) = (lo8 u + 18446744073709551616 - lo8 v) % 18446744073709551616 := by unfold lo8; omega
theorem hi8_sub (u v : Int) : hi8 (u - v) = (hi8 u + 18446744073709551616 - hi8 v - (if lo8 u < lo8 v then 1 else 0)) % 18446744073709551616 := by
  unfold hi8 lo8
  split <;> omega
theorem hi8_small (v : Int) (h1 : -9223372036854775808 ≤ v) (h2 : v ≤ 9223372036854775807) : hi8 v = if v < 0 then 18446744073709551615 else 0 := by
  unfold hi8
  split <;> omega
/-- A number of a size of less than 2^126 that looks like one of 64 digits is one. -/
theorem long_eq (v m : Int) (h1 : -85070591730234615865843651857942052864 ≤ v) (h2 : v ≤ 85070591730234615865843651857942052864) (m1 : -9223372036854775808 ≤ m) (m2 : m ≤ 9223372036854775807) (e1 : hi8 m = hi8 v) (e2 : lo8 m = lo8 v) : m = v := by
  unfold hi8 at e1
  unfold lo8 at e2
  omega
end Go.Proofs.Ytjfpnecnmdclfaa
