/- Twice pairs. No program in sight. -/
import Derived.Test.YtljleceepghfjaaDoorMa
namespace Go.Proofs.YtljleceepghfjaaDoor

/-- The twice pairs. -/
def tp : Nat → Int × Int
  | 0 => (1, 0)
  | k + 1 => ((tp k).1 + 2 * (tp k).2, (tp k).1 + (tp k).2)
def tx (k : Nat) : Int := (tp k).1
def ty (k : Nat) : Int := (tp k).2
theorem tx_succ (k : Nat) : tx (k + 1) = tx k + 2 * ty k := rfl
theorem ty_succ (k : Nat) : ty (k + 1) = tx k + ty k := rfl
theorem tp_nn (k : Nat) : 1 ≤ tx k ∧ 0 ≤ ty k := by
  induction k with
  | zero => decide
  | succ k ih => rw [tx_succ, ty_succ]; omega
theorem tp_mono (k d : Nat) : tx k ≤ tx (k + d) ∧ ty k ≤ ty (k + d) := by
  induction d with
  | zero => exact ⟨Int.le_refl _, Int.le_refl _⟩
  | succ d ih =>
    have h := tp_nn (k + d)
    rw [← Nat.add_assoc, tx_succ, ty_succ]
    omega
theorem tp_le (k n : Nat) (h : k ≤ n) : tx k ≤ tx n ∧ ty k ≤ ty n := by
  have := tp_mono k (n - k)
  rwa [Nat.add_sub_cancel' h] at this
theorem tx_12 : tx 12 = 19601 ∧ ty 12 = 13860 := by decide +kernel
theorem tx_25 : tx 25 = 1855077841 ∧ ty 25 = 1311738121 := by decide +kernel
theorem tp_12 (k : Nat) (h : k ≤ 12) : 1 ≤ tx k ∧ tx k ≤ 19601 ∧ 0 ≤ ty k ∧ ty k ≤ 13860 := by
  have h1 := tp_nn k
  have h2 := tp_le k 12 h
  rw [tx_12.1, tx_12.2] at h2
  omega
theorem tp_25 (k : Nat) (h : k ≤ 25) : 1 ≤ tx k ∧ tx k ≤ 1855077841 ∧ 0 ≤ ty k ∧ ty k ≤ 1311738121 := by
  have h1 := tp_nn k
  have h2 := tp_le k 25 h
  rw [tx_25.1, tx_25.2] at h2
  omega
/-- What the products of a pair ask. -/
theorem tp_prod (k : Nat) (h : k ≤ 12) : 0 ≤ tx k * ty k ∧ tx k * ty k ≤ 271669860 ∧ 0 ≤ tx k * tx k ∧ tx k * tx k ≤ 384199201 ∧ 0 ≤ 2 * ty k * ty k ∧ 2 * ty k * ty k ≤ 384199200 ∧ 0 ≤ 2 * ty k ∧ 2 * ty k ≤ 27720 := by
  obtain ⟨h1, h2, h3, h4⟩ := tp_12 k h
  have a0 : 0 ≤ tx k * ty k := Int.mul_nonneg (by omega) h3
  have a1 : tx k * ty k ≤ 19601 * 13860 := Int.mul_le_mul h2 h4 h3 (by omega)
  have b0 : 0 ≤ tx k * tx k := Int.mul_nonneg (by omega) (by omega)
  have b1 : tx k * tx k ≤ 19601 * 19601 := Int.mul_le_mul h2 h2 (by omega) (by omega)
  have c0 : 0 ≤ 2 * ty k * ty k := Int.mul_nonneg (by omega) h3
  have c1 : 2 * ty k * ty k ≤ 27720 * 13860 := Int.mul_le_mul (by omega) h4 h3 (by omega)
  omega
end Go.Proofs.YtljleceepghfjaaDoor
