/- Plain arithmetic, 2: centred numbers, numbers of places below 0, roots. -/
import Derived.Test.YtjfkeflmbgfhmaaGreatDoorNum
namespace Go.Proofs.YtjfkeflmbgfhmaaGreatDoor

/-- The centred number of a place. -/
def cen (s k : Int) : Int := s * k * (k - 1) / 2 + 1

theorem cen_twice (s k : Int) : 2 * cen s k = s * (k * (k - 1)) + 2 := by
  have h2 := even_pr k
  have h3 : k * (k - 1) = 2 * (k * (k - 1) / 2) := by omega
  have h4 : s * k * (k - 1) = 2 * (s * (k * (k - 1) / 2)) := by
    generalize k * (k - 1) / 2 = q at h3
    grind
  have h5 : s * (k * (k - 1)) = s * k * (k - 1) := by grind
  unfold cen
  omega
theorem cen_succ (s k : Int) : cen s (k + 1) = cen s k + s * k := by
  have h1 := cen_twice s k
  have h2 := cen_twice s (k + 1)
  grind
theorem cen_one (s : Int) : cen s 1 = 1 := by simp [cen]
theorem cen_lt (s : Int) (hs : 3 ≤ s) (a : Int) (ha : 1 ≤ a) (d : Nat) : cen s a < cen s (a + d + 1) := by
  induction d with
  | zero =>
    have h1 := cen_succ s a
    have h2 := Int.mul_pos (a := s) (b := a) (by omega) (by omega)
    simp
    omega
  | succ d ih =>
    have h1 := cen_succ s (a + d + 1)
    have h2 := Int.mul_pos (a := s) (b := a + d + 1) (by omega) (by omega)
    have e : a + ((d + 1 : Nat) : Int) + 1 = a + d + 1 + 1 := by omega
    rw [e]
    omega
theorem cen_mono (s : Int) (hs : 3 ≤ s) {a b : Int} (ha : 1 ≤ a) (h : a ≤ b) : cen s a ≤ cen s b := by
  rcases Int.lt_or_eq_of_le h with h | h
  · have := cen_lt s hs a ha (b - a - 1).toNat
    have e : a + ((b - a - 1).toNat : Int) + 1 = b := by omega
    rw [e] at this
    omega
  · rw [h]; exact Int.le_refl _

structure CenBds (s k : Int) : Prop where
  a0 : 0 ≤ s * k
  a1 : s * k ≤ 72000000
  b0 : 0 ≤ s * k * (k - 1)
  b1 : s * k * (k - 1) ≤ 216000000000000
theorem cen_bds (s k : Int) (h1 : 3 ≤ s) (h2 : s ≤ 24) (h3 : 0 ≤ k) (h4 : k ≤ 3000000) : CenBds s k := by
  have e1 := Int.mul_nonneg (a := s) (b := k) (by omega) h3
  have e2 := Int.mul_nonneg (a := s) (b := 3000000 - k) (by omega) (by omega)
  have e3 := pr_nn k
  have e4 := sq_le k 3000000 (by omega) h4
  have e5 := Int.mul_nonneg (a := s) (b := k * (k - 1)) (by omega) e3
  have f0 : k * (k - 1) = k * k - k := by grind
  have e6 := Int.mul_nonneg (a := s) (b := 9000000000000 - k * (k - 1)) (by omega) (by omega)
  have f2 : s * (3000000 - k) = 3000000 * s - s * k := by grind
  have f5 : s * (k * (k - 1)) = s * k * (k - 1) := by grind
  have f6 : s * (9000000000000 - k * (k - 1)) = 9000000000000 * s - s * k * (k - 1) := by grind
  constructor <;> omega

def IsCpl (s n k : Int) : Prop := 1 ≤ k ∧ cen s k ≤ n ∧ n < cen s (k + 1)
theorem cpl_ex (s : Int) (hs : 3 ≤ s) (n : Nat) : ∃ k, IsCpl s ((n : Int) + 1) k := by
  induction n with
  | zero =>
    refine ⟨1, by omega, by simp [cen_one], ?_⟩
    have := cen_succ s 1
    rw [cen_one] at this
    omega
  | succ n ih =>
    obtain ⟨k, h0, h1, h2⟩ := ih
    by_cases h : cen s (k + 1) ≤ ((n + 1 : Nat) : Int) + 1
    · refine ⟨k + 1, by omega, h, ?_⟩
      have := cen_lt s hs (k + 1) (by omega) 0
      simp at this
      omega
    · exact ⟨k, h0, by omega, by omega⟩
/-- The greatest place of at least 1 whose centred number is no greater; for 0 it is 0. -/
noncomputable def cpl (s n : Int) : Int := if n = 0 then 0 else Classical.epsilon (IsCpl s n)
theorem cpl_is (s n : Int) (hs : 3 ≤ s) (hn : 1 ≤ n) : IsCpl s n (cpl s n) := by
  have e : n = ((n - 1).toNat : Int) + 1 := by omega
  unfold cpl
  rw [if_neg (by omega)]
  rw [e]
  exact Classical.epsilon_spec (cpl_ex s hs _)
theorem cpl_zero (s : Int) : cpl s 0 = 0 := by simp [cpl]
theorem cpl_nn (s n : Int) (hs : 3 ≤ s) (hn : 0 ≤ n) : 0 ≤ cpl s n := by
  by_cases h : n = 0
  · rw [h, cpl_zero]; omega
  · have := (cpl_is s n hs (by omega)).1
    omega
theorem cfits_iff (s n k : Int) (hs : 3 ≤ s) (hn : 0 ≤ n) (hk : 1 ≤ k) : cen s k ≤ n ↔ k ≤ cpl s n := by
  by_cases h0 : n = 0
  · rw [h0, cpl_zero]
    have := cen_mono s hs (a := 1) (b := k) (by omega) hk
    rw [cen_one] at this
    omega
  · obtain ⟨c0, c1, c2⟩ := cpl_is s n hs (by omega)
    constructor
    · intro h
      rcases Int.lt_or_le (cpl s n) k with hlt | hle
      · have := cen_mono s hs (a := cpl s n + 1) (b := k) (by omega) (by omega)
        omega
      · exact hle
    · intro h
      have := cen_mono s hs hk h
      omega
theorem cpl_le (s n : Int) (hs : 3 ≤ s) (hn : 0 ≤ n) (h : n ≤ 1000000000000) : cpl s n ≤ 1000000 := by
  rcases Int.lt_or_le 1000000 (cpl s n) with hlt | hle
  · have h1 := (cfits_iff s n 1000001 hs hn (by omega)).2 (by omega)
    have h2 := cen_twice s 1000001
    have h3 := Int.mul_le_mul_of_nonneg_right (a := 3) (b := s) (c := 1000001 * (1000001 - 1)) hs (by omega)
    omega
  · exact hle

/-! ### places below 0 -/
theorem neg_twice (s k : Int) : 2 * num s (-k) = (s - 2) * k * k + (s - 4) * k := by
  have := num_twice s (-k)
  grind
theorem neg_succ (s k : Int) : num s (-(k + 1)) = num s (-k) + (s - 2) * k + (s - 3) := by
  have h1 := neg_twice s k
  have h2 := neg_twice s (k + 1)
  grind
theorem neg_le (s : Int) (hs : 3 ≤ s) (a : Int) (ha : 0 ≤ a) (d : Nat) : num s (-a) ≤ num s (-(a + d)) := by
  induction d with
  | zero => simp
  | succ d ih =>
    have h1 := neg_succ s (a + d)
    have h2 := Int.mul_nonneg (a := s - 2) (b := a + d) (by omega) (by omega)
    have e : a + ((d + 1 : Nat) : Int) = a + d + 1 := by omega
    rw [e]
    omega
theorem neg_mono (s : Int) (hs : 3 ≤ s) {a b : Int} (ha : 0 ≤ a) (h : a ≤ b) : num s (-a) ≤ num s (-b) := by
  have := neg_le s hs a ha (b - a).toNat
  have e : a + ((b - a).toNat : Int) = b := by omega
  rwa [e] at this
theorem neg_lt (s : Int) (hs : 3 ≤ s) (k : Int) (hk : 1 ≤ k) : num s (-k) < num s (-(k + 1)) := by
  have h1 := neg_succ s k
  have h2 := Int.mul_pos (a := s - 2) (b := k) (by omega) (by omega)
  omega
/-- the number of -k is at least k (k - 1) / 2 -/
theorem neg_ge (s k : Int) (hs : 3 ≤ s) : k * (k - 1) ≤ 2 * num s (-k) := by
  have h1 := neg_twice s k
  have h2 := Int.mul_nonneg (a := s - 3) (b := k * (k + 1)) (by omega) (pr_nn' k)
  have h3 : (s - 2) * k * k + (s - 4) * k = (s - 3) * (k * (k + 1)) + k * (k - 1) := by grind
  omega

def IsWl (s n k : Int) : Prop := 0 ≤ k ∧ num s (-k) ≤ n ∧ n < num s (-(k + 1))
theorem wl_ex (s : Int) (hs : 3 ≤ s) (n : Nat) : ∃ k, IsWl s n k := by
  induction n with
  | zero =>
    by_cases h : s = 3
    · refine ⟨1, by omega, ?_, ?_⟩
      · have := neg_twice s 1
        subst h
        simp at this ⊢
        omega
      · have := neg_twice s 2
        subst h
        simp at this ⊢
        omega
    · refine ⟨0, by omega, by simp [num_zero], ?_⟩
      have := neg_twice s 1
      simp at this ⊢
      omega
  | succ n ih =>
    obtain ⟨k, h0, h1, h2⟩ := ih
    by_cases h : num s (-(k + 1)) ≤ ((n + 1 : Nat) : Int)
    · exact ⟨k + 1, by omega, h, by have := neg_lt s hs (k + 1) (by omega); omega⟩
    · exact ⟨k, h0, by omega, by omega⟩
noncomputable def wl (s n : Int) : Int := Classical.epsilon (IsWl s n)
theorem wl_is (s n : Int) (hs : 3 ≤ s) (hn : 0 ≤ n) : IsWl s n (wl s n) := by
  obtain ⟨m, rfl⟩ := Int.eq_ofNat_of_zero_le hn
  exact Classical.epsilon_spec (wl_ex s hs m)
theorem wfits_iff (s n k : Int) (hs : 3 ≤ s) (hn : 0 ≤ n) (hk : 0 ≤ k) : num s (-k) ≤ n ↔ k ≤ wl s n := by
  obtain ⟨h0, h1, h2⟩ := wl_is s n hs hn
  constructor
  · intro h
    rcases Int.lt_or_le (wl s n) k with hlt | hle
    · have := neg_mono s hs (a := wl s n + 1) (b := k) (by omega) (by omega)
      omega
    · exact hle
  · intro h
    have := neg_mono s hs hk h
    omega
theorem wl_nn (s n : Int) (hs : 3 ≤ s) (hn : 0 ≤ n) : 0 ≤ wl s n := (wl_is s n hs hn).1
theorem wl_le (s n : Int) (hs : 3 ≤ s) (hn : 0 ≤ n) (h : n ≤ 1000000000000) : wl s n ≤ 1500000 := by
  rcases Int.lt_or_le 1500000 (wl s n) with hlt | hle
  · have h1 := (wfits_iff s n 1500001 hs hn (by omega)).2 (by omega)
    have h2 := neg_ge s 1500001 hs
    omega
  · exact hle
/-- Where a number has a place of each sign, the one that is not below 0 is of no greater size. -/
theorem both (s n : Int) (hs : 3 ≤ s) (hn : 0 ≤ n) (h1 : num s (pl s n) = n) : pl s n ≤ wl s n ∨ num s (-(wl s n)) ≠ n := by
  by_cases h4 : s ≤ 4
  · refine Or.inl ((wfits_iff s n _ hs hn (pl_nn s n hs hn)).1 ?_)
    have e1 := neg_twice s (pl s n)
    have e2 := num_twice s (pl s n)
    have e3 := Int.mul_nonneg (a := 4 - s) (b := pl s n) (by omega) (pl_nn s n hs hn)
    have e4 : (4 - s) * pl s n = -((s - 4) * pl s n) := by grind
    omega
  · by_cases h2 : num s (-(wl s n)) = n
    · refine Or.inl ?_
      have e1 := neg_twice s (wl s n)
      have e2 := num_twice s (pl s n)
      have p0 := pl_nn s n hs hn
      have w0 := wl_nn s n hs hn
      generalize pl s n = k at *
      generalize wl s n = l at *
      rw [h1] at e2
      rw [h2] at e1
      have e3 : (l + k) * ((s - 2) * (k - l) - (s - 4)) = 0 := by grind
      rcases Int.mul_eq_zero.1 e3 with e | e
      · omega
      · exfalso
        rcases Int.lt_or_le l k with hlt | hle
        · have := Int.mul_nonneg (a := s - 2) (b := k - l - 1) (by omega) (by omega)
          have e5 : (s - 2) * (k - l - 1) = (s - 2) * (k - l) - (s - 2) := by grind
          omega
        · have := Int.mul_nonneg (a := s - 2) (b := l - k) (by omega) (by omega)
          have e5 : (s - 2) * (l - k) = -((s - 2) * (k - l)) := by grind
          omega
    · exact Or.inr h2

/-! ### roots -/
def IsRt (n k : Int) : Prop := 0 ≤ k ∧ k * k ≤ n ∧ n < (k + 1) * (k + 1)
theorem sq_mono {a b : Int} (ha : 0 ≤ a) (h : a ≤ b) : a * a ≤ b * b := Int.mul_le_mul h h ha (by omega)
theorem rt_ex (n : Nat) : ∃ k, IsRt n k := by
  induction n with
  | zero => exact ⟨0, by omega, by simp, by simp⟩
  | succ n ih =>
    obtain ⟨k, h0, h1, h2⟩ := ih
    by_cases h : (k + 1) * (k + 1) ≤ ((n + 1 : Nat) : Int)
    · refine ⟨k + 1, by omega, h, ?_⟩
      have e : (k + 1 + 1) * (k + 1 + 1) = (k + 1) * (k + 1) + 2 * k + 3 := by grind
      omega
    · exact ⟨k, h0, by omega, by omega⟩
noncomputable def rt (n : Int) : Int := Classical.epsilon (IsRt n)
theorem rt_is (n : Int) (hn : 0 ≤ n) : IsRt n (rt n) := by
  obtain ⟨m, rfl⟩ := Int.eq_ofNat_of_zero_le hn
  exact Classical.epsilon_spec (rt_ex m)
theorem rfits_iff (n k : Int) (hn : 0 ≤ n) (hk : 0 ≤ k) : k * k ≤ n ↔ k ≤ rt n := by
  obtain ⟨h0, h1, h2⟩ := rt_is n hn
  constructor
  · intro h
    rcases Int.lt_or_le (rt n) k with hlt | hle
    · have := sq_mono (a := rt n + 1) (b := k) (by omega) (by omega)
      omega
    · exact hle
  · intro h
    have := sq_mono hk h
    omega
theorem rt_nn (n : Int) (hn : 0 ≤ n) : 0 ≤ rt n := (rt_is n hn).1
theorem rt_le (n : Int) (hn : 0 ≤ n) (h : n ≤ 4000000000000000000) : rt n ≤ 2000000000 := by
  rcases Int.lt_or_le 2000000000 (rt n) with hlt | hle
  · have h1 := (rfits_iff n 2000000001 hn (by omega)).2 (by omega)
    omega
  · exact hle
theorem rt_uniq (n k : Int) (hn : 0 ≤ n) (h0 : 0 ≤ k) (h1 : k * k ≤ n) (h2 : n < (k + 1) * (k + 1)) : k = rt n := by
  have a := (rfits_iff n k hn h0).1 h1
  have b : ¬ (k + 1 ≤ rt n) := fun h => by
    have := (rfits_iff n (k + 1) hn (by omega)).2 h
    omega
  omega
/-- A power of 2. -/
def P2 (t : Int) : Prop := ∃ j : Nat, t = ((2 ^ j : Nat) : Int)
theorem P2.pos {t : Int} (h : P2 t) : 1 ≤ t := by
  obtain ⟨j, rfl⟩ := h
  have := Nat.pow_pos (n := j) (show 0 < 2 by omega)
  omega
theorem P2.half {t : Int} (h : P2 t) (h1 : t ≠ 1) : P2 (t / 2) ∧ t = 2 * (t / 2) := by
  obtain ⟨j, rfl⟩ := h
  cases j with
  | zero => simp at h1
  | succ j =>
    have e : (2 ^ (j + 1) : Nat) = 2 * 2 ^ j := by rw [Nat.pow_succ]; omega
    rw [e]
    have e2 : (((2 * 2 ^ j : Nat) : Int)) / 2 = ((2 ^ j : Nat) : Int) := by omega
    rw [e2]
    exact ⟨⟨j, rfl⟩, by omega⟩
theorem P2.start : P2 2147483648 := ⟨31, by decide⟩
end Go.Proofs.YtjfkeflmbgfhmaaGreatDoor
