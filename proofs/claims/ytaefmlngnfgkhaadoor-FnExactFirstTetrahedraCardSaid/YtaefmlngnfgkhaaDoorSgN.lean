/- Counts of parts out of whatever rising numbers: the program's. -/
import Derived.Test.YtaefmlngnfgkhaaDoorSuK
import Derived.Test.YtaefmlngnfgkhaaDoorSgM
import Derived.Deep.QuietTactic
import Derived.BigQuiet
namespace Go.Proofs.YtaefmlngnfgkhaaDoor
open Go.ChangeShapes Go.WideShapes Go.ChangeAt Go.RowKit

/-- Counts of parts up to place k, but up to k + 1 for fewer parts than i, and for i parts of sums below q. -/
def gmix (f : Int → Int) (k i : Nat) (q : Int) : Nat → Nat → Int := fun j m => if j < i ∨ (j = i ∧ (m : Int) < q) then (gW f (k + 1) j m : Int) else (gW f k j m : Int)
theorem gw_zero (f : Int → Int) (j m : Nat) : (gW f 0 j (m : Int) : Int) = if j = 0 ∧ m = 0 then 1 else 0 := by
  rw [gW_00]
  by_cases h : j = 0 ∧ m = 0
  · rw [if_pos h, if_pos (by omega)]; rfl
  · rw [if_neg h, if_neg (by omega)]; rfl

theorem gmix_start (f : Int → Int) (k : Nat) (j m : Nat) : (gW f k j (m : Int) : Int) = gmix f k 1 0 j m := by
  simp only [gmix]
  by_cases h : j = 0
  · subst h; rw [if_pos (by omega), gW_k0, gW_k0]
  · rw [if_neg (by omega)]
theorem gmix_row (f : Int → Int) (hs : Sq f) (k i : Nat) (x : Int) (hx : x = f ((k : Int) + 1)) (j m : Nat) : gmix f k i 0 j m = gmix f k i x j m := by
  simp only [gmix]
  by_cases h1 : j < i
  · rw [if_pos (by omega), if_pos (by omega)]
  · by_cases h2 : j = i ∧ (m : Int) < x
    · rw [if_neg (by omega), if_pos (by omega), gW_above f hs k j m (by omega)]
    · rw [if_neg (by omega), if_neg (by omega)]
theorem gmix_next (f : Int → Int) (k i N : Nat) (q : Int) (hq : (N : Int) < q) (j m : Nat) (hm : m < N + 1) : gmix f k i q j m = gmix f k (i + 1) 0 j m := by
  simp only [gmix]
  by_cases h : j < i ∨ j = i
  · rw [if_pos (by omega), if_pos (by omega)]
  · rw [if_neg (by omega), if_neg (by omega)]
theorem gmix_end (f : Int → Int) (k M : Nat) (j m : Nat) (hj : j < M + 1) : gmix f k (M + 1) 0 j m = (gW f (k + 1) j m : Int) := by
  simp only [gmix]
  rw [if_pos (by omega)]
theorem gmix_step (f : Int → Int) (k i a : Nat) (v : Int) (hv : v = (gW f (k + 1) i (a : Int) : Int)) (j m : Nat) :
    (if j = i then upd (gmix f k i (a : Int) i) a v else gmix f k i (a : Int) j) m = gmix f k i ((a : Int) + 1) j m := by
  by_cases h : j = i
  · subst h
    by_cases e : m = a
    · subst e
      have e3 : (m : Int) < (m : Int) + 1 := by omega
      simp [upd, gmix, hv, e3]
    · have e2 : ((m : Int) < (a : Int) + 1) = ((m : Int) < (a : Int)) := propext (by omega)
      simp only [if_true, upd, gmix, e2]
      rw [if_neg e]
  · simp [gmix, h]

end Go.Proofs.YtaefmlngnfgkhaaDoor
