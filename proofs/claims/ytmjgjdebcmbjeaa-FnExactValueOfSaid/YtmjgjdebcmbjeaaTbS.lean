/- Plain facts of chapter 8: how great the numbers of rows can be. No program in sight. -/
import Derived.Test.YtmjgjdebcmbjeaaTbO
namespace Go.Proofs.Ytmjgjdebcmbjeaa

/-- All numbers of a size of at most M. -/
def Bd (M : Int) (xs : List Int) : Prop := ∀ j, -M ≤ xs.getD j 0 ∧ xs.getD j 0 ≤ M
theorem Bd.mono {M N : Int} {xs : List Int} (h : Bd M xs) (hM : M ≤ N) : Bd N xs := fun j => by
  have := h j
  omega
theorem Bd.nonneg {M : Int} {xs : List Int} (h : Bd M xs) : 0 ≤ M := by
  have := h xs.length
  simp [List.getD_eq_getElem?_getD] at this
  omega
theorem Bd.stp {M : Int} {xs : List Int} (h : Bd M xs) : Bd (2 * M) (stp8 xs) := fun j => by
  rw [stp8_at]
  have a := h j
  have b := h (j + 1)
  omega
theorem Bd.dif {M : Int} {xs : List Int} (h : Bd M xs) : Bd (2 * M) (dif8 xs) := fun j => by
  by_cases hj : j + 1 < xs.length
  · rw [dif8_at xs j hj]
    have a := h j
    have b := h (j + 1)
    omega
  · have e : (dif8 xs).getD j 0 = 0 := by
      have hl := dif8_len xs
      rw [List.getD_eq_getElem?_getD, List.getElem?_eq_none (by omega)]
      rfl
    rw [e]
    have := h.nonneg
    omega
theorem Bd.head {M : Int} {xs : List Int} (h : Bd M xs) : -M ≤ xs.headD 0 ∧ xs.headD 0 ≤ M := by
  have := h 0
  cases xs <;> simpa using this
theorem Bd.fst {S : List Int → List Int} (hS : ∀ (M : Int) (xs : List Int), Bd M xs → Bd (2 * M) (S xs)) : ∀ (c : Nat) (M : Int) (xs : List Int), Bd M xs → Bd (2 ^ c * M) (fst8 S c xs)
  | 0, M, xs, h => fun j => by
    have := h.nonneg
    simp [fst8]
    omega
  | c + 1, M, xs, h => fun j => by
    have hp : (2 : Int) ^ (c + 1) * M = 2 ^ c * (2 * M) := by rw [Int.pow_succ, Int.mul_assoc]
    have h1 : (1 : Int) ≤ 2 ^ (c + 1) := by
      have : (0 : Int) < 2 ^ (c + 1) := Int.pow_pos (by omega)
      omega
    have h2 : M ≤ 2 ^ (c + 1) * M := by
      have := Int.mul_le_mul_of_nonneg_right h1 h.nonneg
      rwa [Int.one_mul] at this
    cases j with
    | zero =>
      have := h.head
      show -_ ≤ xs.headD 0 ∧ xs.headD 0 ≤ _
      omega
    | succ j =>
      rw [fst8, List.getD_cons_succ, hp]
      exact Bd.fst hS c (2 * M) (S xs) (hS M xs h) j
theorem Bd.take {M : Int} {xs : List Int} (h : Bd M xs) (k : Nat) : Bd M (xs.take k) := fun j => by
  by_cases hj : j < k
  · have e : (xs.take k).getD j 0 = xs.getD j 0 := by
      simp only [List.getD_eq_getElem?_getD]
      rw [List.getElem?_take_of_lt hj]
    rw [e]
    exact h j
  · have e : (xs.take k).getD j 0 = 0 := by
      rw [List.getD_eq_getElem?_getD, List.getElem?_eq_none (by rw [List.length_take]; omega)]
      rfl
    rw [e]
    have := h.nonneg
    omega
theorem Bd.trm {M : Int} {xs : List Int} (h : Bd M xs) : Bd M (trm8 xs) := h.take _
end Go.Proofs.Ytmjgjdebcmbjeaa
