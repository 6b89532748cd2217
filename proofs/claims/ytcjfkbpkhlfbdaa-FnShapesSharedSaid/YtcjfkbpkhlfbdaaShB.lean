/- Chapter 4: how long a list of shared numbers is. -/
import Derived.Test.YtcjfkbpkhlfbdaaShA
namespace Go.Proofs.Ytcjfkbpkhlfbdaa
open Go.ChangeShapes Go.WideShapes Go.ChangeAt Go.RowKit

theorem pl_small (a n : Int) (ha : 3 ≤ a) (hn : 0 ≤ n) : pl a n ≤ n := by
  have h := pl_is a n ha hn
  have h1 := h.1
  have h2 := h.2.1
  rcases Int.lt_or_le n (pl a n) with h3 | h3
  · exfalso
    have hm := num_mono_le a ha (a := n + 1) (b := pl a n) (by omega) (by omega)
    have hg : n + 1 ≤ num a (n + 1) := by
      have ht := num_twice a (n + 1)
      have e : (a - 2) * (n + 1) * (n + 1) - (a - 4) * (n + 1) = (a - 2) * (n + 1) * n + 2 * (n + 1) := by
        rw [Int.mul_add ((a - 2) * (n + 1)) n 1, Int.mul_one, Int.sub_mul a 2, Int.sub_mul a 4]
        omega
      have hp : 0 ≤ (a - 2) * (n + 1) * n := Int.mul_nonneg (Int.mul_nonneg (by omega) (by omega)) hn
      rw [e] at ht
      omega
    omega
  · exact h3
theorem su_len {a b m : Int} (h : suB a b m = true) : ((suL a b m).length : Int) ≤ m + 1 := by
  obtain ⟨⟨a1, b1, hne⟩, n1, n2⟩ := su_t h
  rw [suL, h, cond_true]
  have h1 := shr_len a [b] ((pl a m).toNat + 1)
  have h2 := pl_small a m a1.1 n1
  omega
end Go.Proofs.Ytcjfkbpkhlfbdaa
