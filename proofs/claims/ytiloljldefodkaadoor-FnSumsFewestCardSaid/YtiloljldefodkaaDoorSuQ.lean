/- Three triangles: all of them in order; the specification's loops. -/
import Derived.Test.YtiloljldefodkaaDoorSuI
namespace Go.Proofs.YtiloljldefodkaaDoor
open Go.ChangeShapes Go.WideShapes Go.ChangeAt Go.RowKit

/-- The falling lists of i places in 0, .., k whose numbers are m together, the greatest first. -/
def Lz (s : Int) : Nat → Nat → Int → List (List Int)
  | 0, 0, m => if m = 0 then [[]] else []
  | 0, i + 1, m => (Lz s 0 i m).map (List.cons 0)
  | k + 1, 0, m => Lz s k 0 m
  | k + 1, i + 1, m => (Lz s (k + 1) i (m - num s ((k : Int) + 1))).map (List.cons ((k : Int) + 1)) ++ Lz s k (i + 1) m
termination_by k i => (k, i)
theorem Lz_k0 (s : Int) (k : Nat) (m : Int) : Lz s k 0 m = if m = 0 then [[]] else [] := by
  induction k with
  | zero => rw [Lz]
  | succ k ih => rw [Lz]; exact ih
theorem Lz_neg (s : Int) (hs : 3 ≤ s) (k : Nat) : ∀ (i : Nat) (m : Int), m < 0 → Lz s k i m = [] := by
  induction k with
  | zero =>
    intro i
    induction i with
    | zero => intro m h; rw [Lz_k0, if_neg (by omega)]
    | succ i ih2 => intro m h; rw [Lz, ih2 m h]; rfl
  | succ k ih =>
    intro i
    induction i with
    | zero => intro m h; rw [Lz_k0, if_neg (by omega)]
    | succ i ih2 =>
      intro m h
      have := num_nn s ((k : Int) + 1) hs
      rw [Lz, ih _ _ h, ih2 (m - num s ((k : Int) + 1)) (by omega)]
      rfl
/-- What is left to come from the first place a on. -/
def rem (s : Int) (i : Nat) (m : Int) (a : Int) : List (List Int) := if a < 0 then [] else Lz s a.toNat i m
theorem rem_nat (s : Int) (i : Nat) (m : Int) (k : Nat) : rem s i m (k : Int) = Lz s k i m := by
  rw [rem, if_neg (by omega)]
  simp
theorem rem_step (s : Int) (i : Nat) (m a : Int) (ha : 0 ≤ a) : rem s (i + 1) m a = (rem s i (m - num s a) a).map (List.cons a) ++ rem s (i + 1) m (a - 1) := by
  obtain ⟨k, rfl⟩ := Int.eq_ofNat_of_zero_le ha
  rw [rem_nat, rem_nat]
  cases k with
  | zero =>
    rw [Lz]
    simp [rem, num_zero]
  | succ k =>
    have e : (((k + 1 : Nat) : Int)) - 1 = (k : Int) := by omega
    rw [e, rem_nat, Lz]
    push_cast
    rfl
theorem rem_down (s : Int) (hs : 3 ≤ s) (i : Nat) (m : Int) (k d : Nat) (h : m < num s ((k : Int) + 1)) : Lz s (k + d) (i + 1) m = Lz s k (i + 1) m := by
  induction d with
  | zero => rfl
  | succ d ih =>
    have h1 := num_mono_le s hs (a := (k : Int) + 1) (b := ((k + d : Nat) : Int) + 1) (by omega) (by omega)
    rw [← Nat.add_assoc, Lz, Lz_neg s hs (k + d + 1) i (m - num s (((k + d : Nat) : Int) + 1)) (by omega)]
    exact ih
theorem Lz_one (s : Int) (hs : 3 ≤ s) (r : Int) (hr : 0 ≤ r) (k : Nat) : Lz s k 1 r = if pl s r ≤ k ∧ num s (pl s r) = r then [[pl s r]] else [] := by
  obtain ⟨q0, q1, q2⟩ := pl_is s r hs hr
  induction k with
  | zero =>
    rw [Lz, Lz_k0]
    by_cases h : r = 0
    · subst h
      rw [pl_zero s hs]
      simp [num_zero]
    · rw [if_neg h, if_neg]
      · rfl
      · rintro ⟨h1, h2⟩
        have e : pl s r = 0 := by omega
        rw [e, num_zero] at h2
        omega
  | succ k ih =>
    rw [Lz, Lz_k0, ih]
    by_cases h : r - num s ((k : Int) + 1) = 0
    · have e : pl s r = (k : Int) + 1 := by
        have h1 := (fits_iff s r ((k : Int) + 1) hs hr (by omega)).1 (by omega)
        rcases Int.lt_or_eq_of_le h1 with h2 | h2
        · have := num_mono_lt s hs (by omega) h2
          omega
        · omega
      rw [if_pos h, e, if_neg (by omega), if_pos ⟨by push_cast; omega, by omega⟩]
      rfl
    · rw [if_neg h]
      by_cases h1 : pl s r ≤ k ∧ num s (pl s r) = r
      · rw [if_pos h1, if_pos ⟨by push_cast; omega, h1.2⟩]
        rfl
      · rw [if_neg h1, if_neg]
        · rfl
        · rintro ⟨h2, h3⟩
          have e : pl s r = (k : Int) + 1 := by
            have : ¬ pl s r ≤ k := fun h4 => h1 ⟨h4, h3⟩
            push_cast at h2
            omega
          rw [e] at h3
          omega

/-- How many there are: sums of at most so many parts. -/
def Zc (s : Int) (k : Nat) (m : Int) : Nat → Nat
  | 0 => W s k 0 m
  | i + 1 => Zc s k m i + W s k (i + 1) m
theorem Zc_zero (s : Int) (m : Int) (i : Nat) : Zc s 0 m i = if m = 0 then 1 else 0 := by
  induction i with
  | zero => rw [Zc, W_k0]
  | succ i ih => rw [Zc, ih, W_00, if_neg (show ¬ (i + 1 = 0 ∧ m = 0) by omega)]; omega
theorem Zc_step (s : Int) (k : Nat) (m : Int) (i : Nat) : Zc s (k + 1) m (i + 1) = Zc s (k + 1) (m - num s ((k : Int) + 1)) i + Zc s k m (i + 1) := by
  induction i with
  | zero =>
    simp only [Zc, W_kk, W_k0]
    omega
  | succ i ih =>
    rw [Zc, ih, W_kk]
    simp only [Zc]
    omega
theorem Lz_len (s : Int) (k : Nat) : ∀ (i : Nat) (m : Int), (Lz s k i m).length = Zc s k m i := by
  induction k with
  | zero =>
    intro i
    induction i with
    | zero => intro m; rw [Lz_k0, Zc, W_k0]; split <;> rfl
    | succ i ih2 => intro m; rw [Lz, List.length_map, ih2, Zc_zero, Zc_zero]
  | succ k ih =>
    intro i
    induction i with
    | zero => intro m; rw [Lz_k0, Zc, W_k0]; split <;> rfl
    | succ i ih2 => intro m; rw [Lz, List.length_append, List.length_map, ih2, ih, Zc_step]
theorem Zc_small (s : Int) (hs : 3 ≤ s) (k : Nat) (m : Int) (hk : k ≤ 77) (hm : m ≤ 3000) : (Zc s k m 3 : Int) ≤ 4000000000000000000 := by
  have h0 := W_few s hs k 0 m hk (by omega) hm
  have h1 := W_few s hs k 1 m hk (by omega) hm
  have h2 := W_few s hs k 2 m hk (by omega) hm
  have h3 := W_few s hs k 3 m hk (by omega) hm
  have e : Zc s k m 3 = W s k 0 m + W s k 1 m + W s k 2 m + W s k 3 m := rfl
  omega

/-- The first of them. -/
def hd : List (List Int) → List Int
  | [] => []
  | x :: _ => x
theorem hd_app (P Q : List (List Int)) (h : P ≠ []) : hd (P ++ Q) = hd P := by
  cases P with
  | nil => exact absurd rfl h
  | cons x P => rfl
end Go.Proofs.YtiloljldefodkaaDoor
