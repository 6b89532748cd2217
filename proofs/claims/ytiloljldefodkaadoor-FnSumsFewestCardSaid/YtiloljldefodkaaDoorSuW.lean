/- All lists of so many parts, in order. No program in sight. -/
import Derived.Test.YtiloljldefodkaaDoorMb
namespace Go.Proofs.YtiloljldefodkaaDoor

/-- The falling lists of just i places in 1, .., k whose numbers are m together, the greatest first. -/
def Lw (s : Int) : Nat → Nat → Int → List (List Int)
  | 0, i, m => if i = 0 ∧ m = 0 then [[]] else []
  | k + 1, 0, m => Lw s k 0 m
  | k + 1, i + 1, m => (Lw s (k + 1) i (m - num s ((k : Int) + 1))).map (List.cons ((k : Int) + 1)) ++ Lw s k (i + 1) m
termination_by k i => (k, i)
theorem Lw_k0 (s : Int) (k : Nat) (m : Int) : Lw s k 0 m = if m = 0 then [[]] else [] := by
  induction k with
  | zero => rw [Lw]; simp
  | succ k ih => rw [Lw]; exact ih
theorem Lw_0 (s : Int) (i : Nat) (m : Int) : Lw s 0 (i + 1) m = [] := by rw [Lw, if_neg (by omega)]
theorem Lw_kk (s : Int) (k i : Nat) (m : Int) : Lw s (k + 1) (i + 1) m = (Lw s (k + 1) i (m - num s ((k : Int) + 1))).map (List.cons ((k : Int) + 1)) ++ Lw s k (i + 1) m := by rw [Lw]
theorem Lw_len (s : Int) (k : Nat) : ∀ (i : Nat) (m : Int), (Lw s k i m).length = W s k i m := by
  induction k with
  | zero => intro i m; rw [Lw, W_00]; split <;> rfl
  | succ k ih =>
    intro i
    induction i with
    | zero => intro m; rw [Lw_k0, W_k0]; split <;> rfl
    | succ i ih2 => intro m; rw [Lw_kk, List.length_append, List.length_map, ih2, ih, W_kk]; omega
theorem Lw_nil (s : Int) (k i : Nat) (m : Int) (h : ¬ 0 < W s k i m) : Lw s k i m = [] := by
  rw [← Lw_len] at h
  exact List.length_eq_zero_iff.1 (by omega)
theorem Lw_ne (s : Int) (k i : Nat) (m : Int) (h : 0 < W s k i m) : Lw s k i m ≠ [] := by
  rw [← Lw_len] at h
  intro e
  rw [e] at h
  simp at h
theorem Lw_miss (s : Int) (k i : Nat) (m : Int) (h : ¬ 0 < W s (k + 1) i (m - num s ((k : Int) + 1))) : Lw s (k + 1) (i + 1) m = Lw s k (i + 1) m := by
  rw [Lw_kk, Lw_nil s (k + 1) i _ h]
  rfl
theorem Lw_down (s : Int) (hs : 3 ≤ s) (i : Nat) (m : Int) (k d : Nat) (h : m < num s ((k : Int) + 1)) : Lw s (k + d) (i + 1) m = Lw s k (i + 1) m := by
  induction d with
  | zero => rfl
  | succ d ih =>
    have h1 := num_mono_le s hs (a := (k : Int) + 1) (b := ((k + d : Nat) : Int) + 1) (by omega) (by omega)
    rw [← Nat.add_assoc, Lw_miss s (k + d) i m (by rw [W_neg s hs (k + d + 1) i (m - num s (((k + d : Nat) : Int) + 1)) (by omega)]; omega)]
    exact ih
/-- A sum of i parts of places up to k is no greater than i times the number of k. -/
theorem W_most (s : Int) (hs : 3 ≤ s) (k : Nat) : ∀ (i : Nat) (m : Int), 0 < W s k i m → m ≤ (i : Int) * num s (k : Int) := by
  induction k with
  | zero =>
    intro i m h
    rw [W_00] at h
    by_cases e : i = 0 ∧ m = 0
    · rw [e.1, e.2]; simp
    · rw [if_neg e] at h; omega
  | succ k ih =>
    intro i
    induction i with
    | zero =>
      intro m h
      rw [W_k0] at h
      by_cases e : m = 0
      · subst e; simp
      · rw [if_neg e] at h; omega
    | succ i ih2 =>
      intro m h
      have hm := num_mono_le s hs (a := (k : Int)) (b := (k : Int) + 1) (by omega) (by omega)
      have hcast : ((k + 1 : Nat) : Int) = (k : Int) + 1 := by omega
      rw [W_kk] at h
      rw [hcast]
      by_cases h1 : 0 < W s k (i + 1) m
      · have h2 := ih (i + 1) m h1
        have h3 := Int.mul_le_mul_of_nonneg_left hm (show (0 : Int) ≤ ((i + 1 : Nat) : Int) by omega)
        omega
      · have h2 := ih2 (m - num s ((k : Int) + 1)) (by omega)
        rw [hcast] at h2
        have h3 : ((i + 1 : Nat) : Int) * num s ((k : Int) + 1) = (i : Int) * num s ((k : Int) + 1) + num s ((k : Int) + 1) := by push_cast; grind
        omega
end Go.Proofs.YtiloljldefodkaaDoor
