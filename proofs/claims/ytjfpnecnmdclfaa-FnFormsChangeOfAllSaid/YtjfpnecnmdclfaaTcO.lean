/- Chapter 8, the program: SumsFrom. -/
import Derived.Test.YtjfpnecnmdclfaaMd
namespace Go.Proofs.Ytjfpnecnmdclfaa
open Go.RowKit

theorem Bd.sms {M : Int} : ∀ (xs : List Int) (a K : Int), Bd M xs → -K ≤ a → a ≤ K → Bd (K + (xs.length : Int) * M) (sms8 a xs)
  | [], a, K, h, h1, h2 => fun j => by
    cases j with
    | zero => simp [sms8]; omega
    | succ j => simp [sms8]; omega
  | x :: l, a, K, h, h1, h2 => fun j => by
    have hm := h.nonneg
    have hl : 0 ≤ (l.length : Int) * M := Int.mul_nonneg (by omega) hm
    have he : ((x :: l).length : Int) * M = (l.length : Int) * M + M := by rw [List.length_cons, Int.natCast_add, Int.add_mul]; simp
    rw [he]
    cases j with
    | zero =>
      show -_ ≤ a ∧ a ≤ _
      omega
    | succ j =>
      have hx := h 0
      rw [List.getD_cons_zero] at hx
      have ht : Bd M l := fun j => by have := h (j + 1); rwa [List.getD_cons_succ] at this
      have := Bd.sms l (a + x) (K + M) ht (by omega) (by omega) j
      rw [sms8, List.getD_cons_succ]
      omega
end Go.Proofs.Ytjfpnecnmdclfaa
