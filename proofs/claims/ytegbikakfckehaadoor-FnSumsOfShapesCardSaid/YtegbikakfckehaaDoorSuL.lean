/- Counts of parts: the specification's. -/
import Derived.Test.YtegbikakfckehaaDoorSuK
namespace Go.Proofs.YtegbikakfckehaaDoor
open Go.ChangeShapes Go.WideShapes Go.ChangeAt Go.RowKit

theorem w_zero (s : Int) (j m : Nat) : (W s 0 j (m : Int) : Int) = if j = 0 ∧ m = 0 then 1 else 0 := by
  rw [W_00]
  by_cases h : j = 0 ∧ m = 0
  · rw [if_pos h, if_pos (by omega)]; rfl
  · rw [if_neg h, if_neg (by omega)]; rfl

theorem wmix_start (s : Int) (k : Nat) (j m : Nat) : (W s k j (m : Int) : Int) = wmix s k 1 0 j m := by
  simp only [wmix]
  by_cases h : j = 0
  · subst h; rw [if_pos (by omega), W_k0, W_k0]
  · rw [if_neg (by omega)]
theorem wmix_row (s : Int) (hs : 3 ≤ s) (k i : Nat) (x : Int) (hx : x = num s ((k : Int) + 1)) (j m : Nat) : wmix s k i 0 j m = wmix s k i x j m := by
  simp only [wmix]
  by_cases h1 : j < i
  · rw [if_pos (by omega), if_pos (by omega)]
  · by_cases h2 : j = i ∧ (m : Int) < x
    · rw [if_neg (by omega), if_pos (by omega), W_above s hs k j m (by omega)]
    · rw [if_neg (by omega), if_neg (by omega)]
theorem wmix_next (s : Int) (k i N : Nat) (q : Int) (hq : (N : Int) < q) (j m : Nat) (hm : m < N + 1) : wmix s k i q j m = wmix s k (i + 1) 0 j m := by
  simp only [wmix]
  by_cases h : j < i ∨ j = i
  · rw [if_pos (by omega), if_pos (by omega)]
  · rw [if_neg (by omega), if_neg (by omega)]
theorem wmix_end (s : Int) (k M : Nat) (j m : Nat) (hj : j < M + 1) : wmix s k (M + 1) 0 j m = (W s (k + 1) j m : Int) := by
  simp only [wmix]
  rw [if_pos (by omega)]
theorem wmix_step (s : Int) (k i a : Nat) (v : Int) (hv : v = (W s (k + 1) i (a : Int) : Int)) (j m : Nat) :
    (if j = i then upd (wmix s k i (a : Int) i) a v else wmix s k i (a : Int) j) m = wmix s k i ((a : Int) + 1) j m := by
  by_cases h : j = i
  · subst h
    by_cases e : m = a
    · subst e
      have e3 : (m : Int) < (m : Int) + 1 := by omega
      simp [upd, wmix, hv, e3]
    · have e2 : ((m : Int) < (a : Int) + 1) = ((m : Int) < (a : Int)) := propext (by omega)
      simp only [if_true, upd, wmix, e2]
      rw [if_neg e]
  · simp [wmix, h]

end Go.Proofs.YtegbikakfckehaaDoor
