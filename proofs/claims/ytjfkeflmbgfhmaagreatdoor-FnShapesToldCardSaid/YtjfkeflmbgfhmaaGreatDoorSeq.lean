/- Rising sequences of numbers and the last place that fits; the dots of pyramids. No program in sight. -/
import Derived.Test.YtjfkeflmbgfhmaaGreatDoorNum
namespace Go.Proofs.YtjfkeflmbgfhmaaGreatDoor

/-- A sequence that begins with 0 and 1 and rises from place to place. -/
structure Sq (f : Int → Int) : Prop where
  zero : f 0 = 0
  one : f 1 = 1
  up : ∀ k, 0 ≤ k → f k < f (k + 1)

theorem Sq.lt_add {f : Int → Int} (h : Sq f) (a : Int) (ha : 0 ≤ a) (d : Nat) : f a < f (a + d + 1) := by
  induction d with
  | zero => simpa using h.up a ha
  | succ d ih =>
    have h1 := h.up (a + d + 1) (by omega)
    have e : a + ((d + 1 : Nat) : Int) + 1 = a + d + 1 + 1 := by omega
    rw [e]
    omega
theorem Sq.lt {f : Int → Int} (h : Sq f) {a b : Int} (ha : 0 ≤ a) (hb : a < b) : f a < f b := by
  have := h.lt_add a ha (b - a - 1).toNat
  have e : a + ((b - a - 1).toNat : Int) + 1 = b := by omega
  rwa [e] at this
theorem Sq.le {f : Int → Int} (h : Sq f) {a b : Int} (ha : 0 ≤ a) (hb : a ≤ b) : f a ≤ f b := by
  rcases Int.lt_or_eq_of_le hb with h1 | h1
  · exact Int.le_of_lt (h.lt ha h1)
  · rw [h1]; exact Int.le_refl _
theorem Sq.nn {f : Int → Int} (h : Sq f) {k : Int} (hk : 0 ≤ k) : 0 ≤ f k := by
  have := h.le (a := 0) (by omega) hk
  rw [h.zero] at this
  exact this
theorem Sq.pos {f : Int → Int} (h : Sq f) {k : Int} (hk : 1 ≤ k) : 1 ≤ f k := by
  have := h.le (a := 1) (by omega) hk
  rw [h.one] at this
  exact this

def IsLst (f : Int → Int) (n k : Int) : Prop := 0 ≤ k ∧ f k ≤ n ∧ n < f (k + 1)
theorem lst_ex {f : Int → Int} (h : Sq f) (n : Nat) : ∃ k, IsLst f n k := by
  induction n with
  | zero => exact ⟨0, by omega, by simp [h.zero], by have := h.one; simp; omega⟩
  | succ n ih =>
    obtain ⟨k, h0, h1, h2⟩ := ih
    by_cases hc : f (k + 1) ≤ ((n + 1 : Nat) : Int)
    · exact ⟨k + 1, by omega, hc, by have := h.up (k + 1) (by omega); omega⟩
    · exact ⟨k, h0, by omega, by omega⟩
/-- The greatest place whose number is no greater. -/
noncomputable def lst (f : Int → Int) (n : Int) : Int := Classical.epsilon (IsLst f n)
theorem lst_is {f : Int → Int} (h : Sq f) (n : Int) (hn : 0 ≤ n) : IsLst f n (lst f n) := by
  obtain ⟨m, rfl⟩ := Int.eq_ofNat_of_zero_le hn
  exact Classical.epsilon_spec (lst_ex h m)
theorem lst_nn {f : Int → Int} (h : Sq f) (n : Int) (hn : 0 ≤ n) : 0 ≤ lst f n := (lst_is h n hn).1
theorem lst_iff {f : Int → Int} (h : Sq f) (n k : Int) (hn : 0 ≤ n) (hk : 0 ≤ k) : f k ≤ n ↔ k ≤ lst f n := by
  obtain ⟨h0, h1, h2⟩ := lst_is h n hn
  constructor
  · intro h3
    rcases Int.lt_or_le (lst f n) k with hlt | hle
    · have := h.le (a := lst f n + 1) (b := k) (by omega) (by omega)
      omega
    · exact hle
  · intro h3
    have := h.le hk h3
    omega
theorem lst_lt {f : Int → Int} (h : Sq f) (n k : Int) (hn : 0 ≤ n) (hk : 0 ≤ k) (hf : n < f k) : lst f n < k := by
  rcases Int.lt_or_le (lst f n) k with h1 | h1
  · exact h1
  · have := (lst_iff h n k hn hk).2 h1
    omega
theorem lst_zero {f : Int → Int} (h : Sq f) : lst f 0 = 0 := by
  have h1 := lst_nn h 0 (by omega)
  have h2 := lst_lt h 0 1 (by omega) (by omega) (by rw [h.one]; omega)
  omega
theorem lst_pos {f : Int → Int} (h : Sq f) (n : Int) (hn : 0 < n) : 1 ≤ lst f n :=
  (lst_iff h n 1 (by omega) (by omega)).1 (by rw [h.one]; omega)

theorem sq_num (s : Int) (hs : 3 ≤ s) : Sq (num s) := ⟨num_zero s, num_one s, fun k hk => num_lt_succ s k hs hk⟩
theorem lst_num (s n : Int) (hs : 3 ≤ s) (hn : 0 ≤ n) : lst (num s) n = pl s n := by
  have h1 := fits_iff s n (lst (num s) n) hs hn (lst_nn (sq_num s hs) n hn)
  have h2 := lst_iff (sq_num s hs) n (pl s n) hn (pl_nn s n hs hn)
  have h3 := (lst_iff (sq_num s hs) n (lst (num s) n) hn (lst_nn (sq_num s hs) n hn)).2 (Int.le_refl _)
  have h4 := (fits_iff s n (pl s n) hs hn (pl_nn s n hs hn)).2 (Int.le_refl _)
  have h5 := h1.1 h3
  have h6 := h2.1 h4
  omega

/-! ### pyramids -/
/-- The dots of a pyramid of s sides with k layers. -/
def pyr (s k : Int) : Int := k * (k + 1) * ((s - 2) * k - (s - 5)) / 6

theorem tri_six (k : Int) : (k - 1) * k * (k + 1) % 6 = 0 := by
  have h2 : (k - 1) * k * (k + 1) % 2 = 0 := by
    rcases Int.emod_two_eq k with h | h <;> simp [Int.mul_emod, Int.sub_emod, Int.add_emod, h]
  have h3 : (k - 1) * k * (k + 1) % 3 = 0 := by
    have h : k % 3 = 0 ∨ k % 3 = 1 ∨ k % 3 = 2 := by omega
    rcases h with h | h | h <;> simp [Int.mul_emod, Int.sub_emod, Int.add_emod, h]
  omega
theorem pyr_form (s k : Int) : k * (k + 1) * ((s - 2) * k - (s - 5)) = (s - 2) * ((k - 1) * k * (k + 1)) + 3 * (k * (k + 1)) := by grind
theorem pyr_six (s k : Int) : 6 * pyr s k = k * (k + 1) * ((s - 2) * k - (s - 5)) := by
  have h1 := tri_six k
  have h2 := even_pr (k + 1)
  have h : k * (k + 1) * ((s - 2) * k - (s - 5)) = 6 * ((s - 2) * ((k - 1) * k * (k + 1) / 6) + (k + 1) * (k + 1 - 1) / 2) := by
    have h3 : (k - 1) * k * (k + 1) = 6 * ((k - 1) * k * (k + 1) / 6) := by omega
    have h4 : (k + 1) * (k + 1 - 1) = 2 * ((k + 1) * (k + 1 - 1) / 2) := by omega
    rw [pyr_form]
    generalize (k - 1) * k * (k + 1) / 6 = q at h3
    generalize (k + 1) * (k + 1 - 1) / 2 = r at h4
    rw [h3]
    grind
  unfold pyr
  rw [h]
  omega
theorem pyr_zero (s : Int) : pyr s 0 = 0 := by simp [pyr]
theorem pyr_succ (s k : Int) : pyr s (k + 1) = pyr s k + num s (k + 1) := by
  have h1 := pyr_six s k
  have h2 := pyr_six s (k + 1)
  have h3 := num_twice s (k + 1)
  grind
theorem pyr_one (s : Int) : pyr s 1 = 1 := by
  have := pyr_succ s 0
  rw [pyr_zero, show (0 : Int) + 1 = 1 from rfl, num_one] at this
  omega
theorem sq_pyr (s : Int) (hs : 3 ≤ s) : Sq (pyr s) := ⟨pyr_zero s, pyr_one s, fun k hk => by
  have h1 := pyr_succ s k
  have h2 := num_mono_le s hs (a := 1) (b := k + 1) (by omega) (by omega)
  rw [num_one] at h2
  omega⟩

/-- What a walk over k (k + 1) ((s - 2) k - (s - 5)) / 6 asks. -/
structure PyrBds (s k : Int) : Prop where
  a0 : 0 ≤ k * (k + 1)
  a1 : k * (k + 1) ≤ 1073774592
  b0 : 0 ≤ (s - 2) * k
  b1 : (s - 2) * k ≤ 720896
  c0 : -1000000000000000 ≤ k * (k + 1) * ((s - 2) * k - (s - 5))
  c1 : k * (k + 1) * ((s - 2) * k - (s - 5)) ≤ 1000000000000000
  d0 : 0 ≤ k * (k + 1) * ((s - 2) * k - (s - 5))
theorem pyr_bds (s k : Int) (h1 : 3 ≤ s) (h2 : s ≤ 24) (h3 : 0 ≤ k) (h4 : k ≤ 32768) : PyrBds s k := by
  have a0 : 0 ≤ k * (k + 1) := Int.mul_nonneg h3 (by omega)
  have a1 : k * (k + 1) ≤ 32768 * 32769 := Int.mul_le_mul h4 (by omega) (by omega) (by omega)
  have b0 : 0 ≤ (s - 2) * k := Int.mul_nonneg (by omega) h3
  have b1 : (s - 2) * k ≤ 22 * 32768 := Int.mul_le_mul (by omega) h4 h3 (by omega)
  have e : 0 ≤ k * (k + 1) * ((s - 2) * k - (s - 5)) := by
    have := pyr_six s k
    have := (sq_pyr s h1).nn h3
    omega
  have f : k * (k + 1) * ((s - 2) * k - (s - 5)) ≤ 1073774592 * 720898 := by
    have h5 := Int.mul_nonneg (a := k * (k + 1)) (b := 720898 - ((s - 2) * k - (s - 5))) a0 (by omega)
    have h6 : k * (k + 1) * (720898 - ((s - 2) * k - (s - 5))) = 720898 * (k * (k + 1)) - k * (k + 1) * ((s - 2) * k - (s - 5)) := by grind
    omega
  constructor <;> omega
/-- Three sides ask for the most layers. -/
theorem pyr_ge (s k : Int) (hs : 3 ≤ s) (hk : 0 ≤ k) : k * (k + 1) * (k + 2) ≤ 6 * pyr s k := by
  rw [pyr_six]
  have h1 : k * (k + 1) * ((s - 2) * k - (s - 5)) = k * (k + 1) * (k + 2) + (s - 3) * ((k - 1) * k * (k + 1)) := by grind
  have h2 : 0 ≤ (k - 1) * k * (k + 1) := by
    have := Int.mul_nonneg (a := k * (k - 1)) (b := k + 1) (pr_nn k) (by omega)
    have e : k * (k - 1) * (k + 1) = (k - 1) * k * (k + 1) := by grind
    omega
  have h3 := Int.mul_nonneg (a := s - 3) (b := (k - 1) * k * (k + 1)) (by omega) h2
  omega
theorem pyl_lt (s n : Int) (hs : 3 ≤ s) (hn : 0 ≤ n) (h : n ≤ 1000000000000) : lst (pyr s) n < 20000 := by
  refine lst_lt (sq_pyr s hs) n 20000 hn (by omega) ?_
  have := pyr_ge s 20000 hs (by omega)
  omega
end Go.Proofs.YtjfkeflmbgfhmaaGreatDoor
