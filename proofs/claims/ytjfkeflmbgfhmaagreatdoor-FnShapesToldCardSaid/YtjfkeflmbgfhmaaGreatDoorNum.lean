/- Plain arithmetic of polygonal numbers: no program in sight. -/
import Derived.WalkKit
namespace Go.Proofs.YtjfkeflmbgfhmaaGreatDoor

theorem ret_int {k : IntKind} {a b : Int} (h : a = b) : Ending.returned (.int k a) = .returned (.int k b) := by rw [h]

open Go.RowKit in
/-- What a contract that ends in 'Below' says of old cells and marks, as two rules. -/
theorem bcell {W w1 : World} (hb : Below W.heap.size W w1) : (∀ b o, b < W.heap.size → w1.cell? ⟨b, o, none⟩ = W.cell? ⟨b, o, none⟩) ∧ (∀ b o, b < W.heap.size → w1.frozen? ⟨b, o, none⟩ = W.frozen? ⟨b, o, none⟩) :=
  ⟨fun b o h => hb.cell (p := ⟨b, o, none⟩) h, fun b o h => hb.frozen (p := ⟨b, o, none⟩) h⟩

/-- The polygonal number of a place that may be less than 0. -/
def num (s k : Int) : Int := ((s - 2) * k * k - (s - 4) * k) / 2

theorem even_pr (k : Int) : k * (k - 1) % 2 = 0 := by
  rcases Int.emod_two_eq k with h | h <;> simp [Int.mul_emod, Int.sub_emod, h]

theorem num_twice (s k : Int) : 2 * num s k = (s - 2) * k * k - (s - 4) * k := by
  have h : (s - 2) * k * k - (s - 4) * k = 2 * ((s - 2) * (k * (k - 1) / 2) + k) := by
    have h2 := even_pr k
    have h3 : k * (k - 1) = 2 * (k * (k - 1) / 2) := by omega
    generalize k * (k - 1) / 2 = q at h3
    grind
  unfold num
  rw [h]
  omega

theorem num_zero (s : Int) : num s 0 = 0 := by simp [num]
theorem num_one (s : Int) : num s 1 = 1 := by
  have := num_twice s 1
  grind
theorem num_succ (s k : Int) : num s (k + 1) = num s k + (s - 2) * k + 1 := by
  have h1 := num_twice s k
  have h2 := num_twice s (k + 1)
  grind

theorem sq_nn (k : Int) : 0 ≤ k * k := by
  rcases Int.le_total 0 k with h | h
  · exact Int.mul_nonneg h h
  · have := Int.mul_nonneg (a := -k) (b := -k) (by omega) (by omega)
    grind

/-- twice the number is (s - 3) k (k - 1) and k (k + 1) -/
theorem num_split (s k : Int) : 2 * num s k = (s - 3) * (k * (k - 1)) + k * (k + 1) := by
  have h1 := num_twice s k
  grind

theorem pr_nn (k : Int) : 0 ≤ k * (k - 1) := by
  rcases Int.lt_or_le 0 k with h | h
  · exact Int.mul_nonneg (by omega) (by omega)
  · have := Int.mul_nonneg (a := -k) (b := 1 - k) (by omega) (by omega)
    grind
theorem pr_nn' (k : Int) : 0 ≤ k * (k + 1) := by
  have := pr_nn (k + 1)
  grind

theorem num_nn (s k : Int) (hs : 3 ≤ s) : 0 ≤ num s k := by
  have h1 := num_split s k
  have h2 := Int.mul_nonneg (a := s - 3) (b := k * (k - 1)) (by omega) (pr_nn k)
  have h3 := pr_nn' k
  omega

theorem num_lt_succ (s k : Int) (hs : 3 ≤ s) (hk : 0 ≤ k) : num s k < num s (k + 1) := by
  have h1 := num_succ s k
  have h2 := Int.mul_nonneg (a := s - 2) (b := k) (by omega) hk
  omega

theorem num_lt (s : Int) (hs : 3 ≤ s) (a : Int) (ha : 0 ≤ a) (d : Nat) : num s a < num s (a + d + 1) := by
  induction d with
  | zero => simpa using num_lt_succ s a hs ha
  | succ d ih =>
    have h := num_lt_succ s (a + d + 1) hs (by omega)
    have e : a + ((d + 1 : Nat) : Int) + 1 = a + d + 1 + 1 := by omega
    rw [e]
    omega

theorem num_mono_lt (s : Int) (hs : 3 ≤ s) {a b : Int} (ha : 0 ≤ a) (h : a < b) : num s a < num s b := by
  have := num_lt s hs a ha (b - a - 1).toNat
  have e : a + ((b - a - 1).toNat : Int) + 1 = b := by omega
  rwa [e] at this
theorem num_mono_le (s : Int) (hs : 3 ≤ s) {a b : Int} (ha : 0 ≤ a) (h : a ≤ b) : num s a ≤ num s b := by
  rcases Int.lt_or_eq_of_le h with h | h
  · exact Int.le_of_lt (num_mono_lt s hs ha h)
  · rw [h]; exact Int.le_refl _

theorem num_ge (s k : Int) (hs : 3 ≤ s) : k * (k + 1) ≤ 2 * num s k := by
  have h1 := num_split s k
  have h2 := Int.mul_nonneg (a := s - 3) (b := k * (k - 1)) (by omega) (pr_nn k)
  omega

theorem sq_le (k : Int) (a : Int) (h1 : -a ≤ k) (h2 : k ≤ a) : k * k ≤ a * a := by
  have h3 := Int.mul_nonneg (a := a - k) (b := a + k) (by omega) (by omega)
  grind

/-- What a walk over ((s - 2) k k - (s - 4) k) / 2 asks. -/
structure NumBds (s k : Int) : Prop where
  a0 : -66000000 ≤ (s - 2) * k
  a1 : (s - 2) * k ≤ 66000000
  b0 : 0 ≤ (s - 2) * k * k
  b1 : (s - 2) * k * k ≤ 198000000000000
  c0 : -80000000 ≤ (s - 4) * k
  c1 : (s - 4) * k ≤ 80000000
  d0 : 0 ≤ (s - 2) * k * k - (s - 4) * k

theorem num_bds (s k : Int) (h1 : 3 ≤ s) (h2 : s ≤ 24) (h3 : -3000000 ≤ k) (h4 : k ≤ 3000000) : NumBds s k := by
  have e1 := Int.mul_nonneg (a := s - 2) (b := 3000000 - k) (by omega) (by omega)
  have e2 := Int.mul_nonneg (a := s - 2) (b := 3000000 + k) (by omega) (by omega)
  have e3 := sq_nn k
  have e4 := sq_le k 3000000 h3 h4
  have e5 := Int.mul_nonneg (a := s - 2) (b := k * k) (by omega) e3
  have e6 := Int.mul_nonneg (a := s - 2) (b := 9000000000000 - k * k) (by omega) (by omega)
  have e7 := num_twice s k
  have e8 := num_nn s k h1
  have f1 : (s - 2) * (3000000 - k) = 3000000 * (s - 2) - (s - 2) * k := by grind
  have f2 : (s - 2) * (3000000 + k) = 3000000 * (s - 2) + (s - 2) * k := by grind
  have f5 : (s - 2) * (k * k) = (s - 2) * k * k := by grind
  have f6 : (s - 2) * (9000000000000 - k * k) = 9000000000000 * (s - 2) - (s - 2) * k * k := by grind
  have f8 : (s - 4) * k = (s - 2) * k - 2 * k := by grind
  constructor <;> omega

/-! ### the place of a number -/
def IsPl (s n k : Int) : Prop := 0 ≤ k ∧ num s k ≤ n ∧ n < num s (k + 1)

theorem pl_ex (s : Int) (hs : 3 ≤ s) (n : Nat) : ∃ k, IsPl s n k := by
  induction n with
  | zero => exact ⟨0, by omega, by simp [num_zero], by have := num_one s; simp; omega⟩
  | succ n ih =>
    obtain ⟨k, h0, h1, h2⟩ := ih
    by_cases h : num s (k + 1) ≤ ((n + 1 : Nat) : Int)
    · exact ⟨k + 1, by omega, h, by have := num_lt_succ s (k + 1) hs (by omega); omega⟩
    · exact ⟨k, h0, by omega, by omega⟩

/-- The greatest place whose number is no greater. -/
noncomputable def pl (s n : Int) : Int := Classical.epsilon (IsPl s n)

theorem pl_is (s n : Int) (hs : 3 ≤ s) (hn : 0 ≤ n) : IsPl s n (pl s n) := by
  obtain ⟨m, rfl⟩ := Int.eq_ofNat_of_zero_le hn
  exact Classical.epsilon_spec (pl_ex s hs m)

theorem pl_nn (s n : Int) (hs : 3 ≤ s) (hn : 0 ≤ n) : 0 ≤ pl s n := (pl_is s n hs hn).1
/-- A place fits just if it is no greater. -/
theorem fits_iff (s n k : Int) (hs : 3 ≤ s) (hn : 0 ≤ n) (hk : 0 ≤ k) : num s k ≤ n ↔ k ≤ pl s n := by
  obtain ⟨h0, h1, h2⟩ := pl_is s n hs hn
  constructor
  · intro h
    rcases Int.lt_or_le (pl s n) k with hlt | hle
    · have := num_mono_le s hs (a := pl s n + 1) (b := k) (by omega) (by omega)
      omega
    · exact hle
  · intro h
    have := num_mono_le s hs hk h
    omega
theorem pl_le (s n : Int) (hs : 3 ≤ s) (hn : 0 ≤ n) (h : n ≤ 1000000000000) : pl s n ≤ 1414214 := by
  obtain ⟨h0, h1, h2⟩ := pl_is s n hs hn
  rcases Int.lt_or_le 1414214 (pl s n) with hlt | hle
  · have h3 := num_ge s (pl s n) hs
    have h4 := Int.mul_nonneg (a := pl s n - 1414214) (b := pl s n + 1414214) (by omega) (by omega)
    have h5 : pl s n * (pl s n + 1) = (pl s n - 1414214) * (pl s n + 1414214) + 1414214 * 1414214 + pl s n := by grind
    omega
  · exact hle

end Go.Proofs.YtjfkeflmbgfhmaaGreatDoor
