/- The texts XSeq XSoA XSx XSoD XDrA XDrB XDrC XDrD XDrW XDrM joined. -/
import Derived.Test.YtbabkcjnfdpafaaGreatDoorMa
import Derived.Test.YtbabkcjnfdpafaaGreatDoorMe
import Derived.Test.YtbabkcjnfdpafaaGreatDoorMb
import Derived.Lib.Hide
import Derived.Deep.QuietTactic
import Derived.BigQuiet
import Derived.Deep.Cut
import Derived.Test.YtbabkcjnfdpafaaGreatDoorMc
/- Rising sequences of numbers and the last place that fits; the dots of pyramids. No program in sight. -/
namespace Go.Proofs.YtbabkcjnfdpafaaGreatDoor

/-- A sequence that begins with 0 and 1 and rises from place to place. -/
structure Sq (f : Int → Int) : Prop where
  zero : f 0 = 0
  one : f 1 = 1
  up : ∀ k, 0 ≤ k → f k < f (k + 1)

theorem Sq.lt_add {f : Int → Int} (h : Sq f) (a : Int) (ha : 0 ≤ a) (d : Nat) : f a < f (a + d + 1) := by
  induction d with
  | zero => simpa using h.up a ha
  | succ d ih =>
    have h1 := h.up (a + d + 1) (by omega)
    have e : a + ((d + 1 : Nat) : Int) + 1 = a + d + 1 + 1 := by omega
    rw [e]
    omega
theorem Sq.lt {f : Int → Int} (h : Sq f) {a b : Int} (ha : 0 ≤ a) (hb : a < b) : f a < f b := by
  have := h.lt_add a ha (b - a - 1).toNat
  have e : a + ((b - a - 1).toNat : Int) + 1 = b := by omega
  rwa [e] at this
theorem Sq.le {f : Int → Int} (h : Sq f) {a b : Int} (ha : 0 ≤ a) (hb : a ≤ b) : f a ≤ f b := by
  rcases Int.lt_or_eq_of_le hb with h1 | h1
  · exact Int.le_of_lt (h.lt ha h1)
  · rw [h1]; exact Int.le_refl _
theorem Sq.nn {f : Int → Int} (h : Sq f) {k : Int} (hk : 0 ≤ k) : 0 ≤ f k := by
  have := h.le (a := 0) (by omega) hk
  rw [h.zero] at this
  exact this
theorem Sq.pos {f : Int → Int} (h : Sq f) {k : Int} (hk : 1 ≤ k) : 1 ≤ f k := by
  have := h.le (a := 1) (by omega) hk
  rw [h.one] at this
  exact this

def IsLst (f : Int → Int) (n k : Int) : Prop := 0 ≤ k ∧ f k ≤ n ∧ n < f (k + 1)
theorem lst_ex {f : Int → Int} (h : Sq f) (n : Nat) : ∃ k, IsLst f n k := by
  induction n with
  | zero => exact ⟨0, by omega, by simp [h.zero], by have := h.one; simp; omega⟩
  | succ n ih =>
    obtain ⟨k, h0, h1, h2⟩ := ih
    by_cases hc : f (k + 1) ≤ ((n + 1 : Nat) : Int)
    · exact ⟨k + 1, by omega, hc, by have := h.up (k + 1) (by omega); omega⟩
    · exact ⟨k, h0, by omega, by omega⟩
/-- The greatest place whose number is no greater. -/
noncomputable def lst (f : Int → Int) (n : Int) : Int := Classical.epsilon (IsLst f n)
theorem lst_is {f : Int → Int} (h : Sq f) (n : Int) (hn : 0 ≤ n) : IsLst f n (lst f n) := by
  obtain ⟨m, rfl⟩ := Int.eq_ofNat_of_zero_le hn
  exact Classical.epsilon_spec (lst_ex h m)
theorem lst_nn {f : Int → Int} (h : Sq f) (n : Int) (hn : 0 ≤ n) : 0 ≤ lst f n := (lst_is h n hn).1
theorem lst_iff {f : Int → Int} (h : Sq f) (n k : Int) (hn : 0 ≤ n) (hk : 0 ≤ k) : f k ≤ n ↔ k ≤ lst f n := by
  obtain ⟨h0, h1, h2⟩ := lst_is h n hn
  constructor
  · intro h3
    rcases Int.lt_or_le (lst f n) k with hlt | hle
    · have := h.le (a := lst f n + 1) (b := k) (by omega) (by omega)
      omega
    · exact hle
  · intro h3
    have := h.le hk h3
    omega
theorem lst_lt {f : Int → Int} (h : Sq f) (n k : Int) (hn : 0 ≤ n) (hk : 0 ≤ k) (hf : n < f k) : lst f n < k := by
  rcases Int.lt_or_le (lst f n) k with h1 | h1
  · exact h1
  · have := (lst_iff h n k hn hk).2 h1
    omega
theorem lst_zero {f : Int → Int} (h : Sq f) : lst f 0 = 0 := by
  have h1 := lst_nn h 0 (by omega)
  have h2 := lst_lt h 0 1 (by omega) (by omega) (by rw [h.one]; omega)
  omega
theorem lst_pos {f : Int → Int} (h : Sq f) (n : Int) (hn : 0 < n) : 1 ≤ lst f n :=
  (lst_iff h n 1 (by omega) (by omega)).1 (by rw [h.one]; omega)

theorem sq_num (s : Int) (hs : 3 ≤ s) : Sq (num s) := ⟨num_zero s, num_one s, fun k hk => num_lt_succ s k hs hk⟩
theorem lst_num (s n : Int) (hs : 3 ≤ s) (hn : 0 ≤ n) : lst (num s) n = pl s n := by
  have h1 := fits_iff s n (lst (num s) n) hs hn (lst_nn (sq_num s hs) n hn)
  have h2 := lst_iff (sq_num s hs) n (pl s n) hn (pl_nn s n hs hn)
  have h3 := (lst_iff (sq_num s hs) n (lst (num s) n) hn (lst_nn (sq_num s hs) n hn)).2 (Int.le_refl _)
  have h4 := (fits_iff s n (pl s n) hs hn (pl_nn s n hs hn)).2 (Int.le_refl _)
  have h5 := h1.1 h3
  have h6 := h2.1 h4
  omega

/-! ### pyramids -/
/-- The dots of a pyramid of s sides with k layers. -/
def pyr (s k : Int) : Int := k * (k + 1) * ((s - 2) * k - (s - 5)) / 6

theorem tri_six (k : Int) : (k - 1) * k * (k + 1) % 6 = 0 := by
  have h2 : (k - 1) * k * (k + 1) % 2 = 0 := by
    rcases Int.emod_two_eq k with h | h <;> simp [Int.mul_emod, Int.sub_emod, Int.add_emod, h]
  have h3 : (k - 1) * k * (k + 1) % 3 = 0 := by
    have h : k % 3 = 0 ∨ k % 3 = 1 ∨ k % 3 = 2 := by omega
    rcases h with h | h | h <;> simp [Int.mul_emod, Int.sub_emod, Int.add_emod, h]
  omega
theorem pyr_form (s k : Int) : k * (k + 1) * ((s - 2) * k - (s - 5)) = (s - 2) * ((k - 1) * k * (k + 1)) + 3 * (k * (k + 1)) := by grind
theorem pyr_six (s k : Int) : 6 * pyr s k = k * (k + 1) * ((s - 2) * k - (s - 5)) := by
  have h1 := tri_six k
  have h2 := even_pr (k + 1)
  have h : k * (k + 1) * ((s - 2) * k - (s - 5)) = 6 * ((s - 2) * ((k - 1) * k * (k + 1) / 6) + (k + 1) * (k + 1 - 1) / 2) := by
    have h3 : (k - 1) * k * (k + 1) = 6 * ((k - 1) * k * (k + 1) / 6) := by omega
    have h4 : (k + 1) * (k + 1 - 1) = 2 * ((k + 1) * (k + 1 - 1) / 2) := by omega
    rw [pyr_form]
    generalize (k - 1) * k * (k + 1) / 6 = q at h3
    generalize (k + 1) * (k + 1 - 1) / 2 = r at h4
    rw [h3]
    grind
  unfold pyr
  rw [h]
  omega
theorem pyr_zero (s : Int) : pyr s 0 = 0 := by simp [pyr]
theorem pyr_succ (s k : Int) : pyr s (k + 1) = pyr s k + num s (k + 1) := by
  have h1 := pyr_six s k
  have h2 := pyr_six s (k + 1)
  have h3 := num_twice s (k + 1)
  grind
theorem pyr_one (s : Int) : pyr s 1 = 1 := by
  have := pyr_succ s 0
  rw [pyr_zero, show (0 : Int) + 1 = 1 from rfl, num_one] at this
  omega
theorem sq_pyr (s : Int) (hs : 3 ≤ s) : Sq (pyr s) := ⟨pyr_zero s, pyr_one s, fun k hk => by
  have h1 := pyr_succ s k
  have h2 := num_mono_le s hs (a := 1) (b := k + 1) (by omega) (by omega)
  rw [num_one] at h2
  omega⟩

/-- What a walk over k (k + 1) ((s - 2) k - (s - 5)) / 6 asks. -/
structure PyrBds (s k : Int) : Prop where
  a0 : 0 ≤ k * (k + 1)
  a1 : k * (k + 1) ≤ 1073774592
  b0 : 0 ≤ (s - 2) * k
  b1 : (s - 2) * k ≤ 720896
  c0 : -1000000000000000 ≤ k * (k + 1) * ((s - 2) * k - (s - 5))
  c1 : k * (k + 1) * ((s - 2) * k - (s - 5)) ≤ 1000000000000000
  d0 : 0 ≤ k * (k + 1) * ((s - 2) * k - (s - 5))
theorem pyr_bds (s k : Int) (h1 : 3 ≤ s) (h2 : s ≤ 24) (h3 : 0 ≤ k) (h4 : k ≤ 32768) : PyrBds s k := by
  have a0 : 0 ≤ k * (k + 1) := Int.mul_nonneg h3 (by omega)
  have a1 : k * (k + 1) ≤ 32768 * 32769 := Int.mul_le_mul h4 (by omega) (by omega) (by omega)
  have b0 : 0 ≤ (s - 2) * k := Int.mul_nonneg (by omega) h3
  have b1 : (s - 2) * k ≤ 22 * 32768 := Int.mul_le_mul (by omega) h4 h3 (by omega)
  have e : 0 ≤ k * (k + 1) * ((s - 2) * k - (s - 5)) := by
    have := pyr_six s k
    have := (sq_pyr s h1).nn h3
    omega
  have f : k * (k + 1) * ((s - 2) * k - (s - 5)) ≤ 1073774592 * 720898 := by
    have h5 := Int.mul_nonneg (a := k * (k + 1)) (b := 720898 - ((s - 2) * k - (s - 5))) a0 (by omega)
    have h6 : k * (k + 1) * (720898 - ((s - 2) * k - (s - 5))) = 720898 * (k * (k + 1)) - k * (k + 1) * ((s - 2) * k - (s - 5)) := by grind
    omega
  constructor <;> omega
/-- Three sides ask for the most layers. -/
theorem pyr_ge (s k : Int) (hs : 3 ≤ s) (hk : 0 ≤ k) : k * (k + 1) * (k + 2) ≤ 6 * pyr s k := by
  rw [pyr_six]
  have h1 : k * (k + 1) * ((s - 2) * k - (s - 5)) = k * (k + 1) * (k + 2) + (s - 3) * ((k - 1) * k * (k + 1)) := by grind
  have h2 : 0 ≤ (k - 1) * k * (k + 1) := by
    have := Int.mul_nonneg (a := k * (k - 1)) (b := k + 1) (pr_nn k) (by omega)
    have e : k * (k - 1) * (k + 1) = (k - 1) * k * (k + 1) := by grind
    omega
  have h3 := Int.mul_nonneg (a := s - 3) (b := (k - 1) * k * (k + 1)) (by omega) h2
  omega
theorem pyl_lt (s n : Int) (hs : 3 ≤ s) (hn : 0 ≤ n) (h : n ≤ 1000000000000) : lst (pyr s) n < 20000 := by
  refine lst_lt (sq_pyr s hs) n 20000 hn (by omega) ?_
  have := pyr_ge s 20000 hs (by omega)
  omega
end Go.Proofs.YtbabkcjnfdpafaaGreatDoor

/- Guards of chapter 3, and the contracts of its rules of arithmetic. -/
namespace Go.Proofs.YtbabkcjnfdpafaaGreatDoor
open Go.ChangeShapes Go.WideShapes Go.ChangeAt Go.RowKit


end Go.Proofs.YtbabkcjnfdpafaaGreatDoor

/- Simplices, cut off above MaxStacked. No program in sight. -/
namespace Go.Proofs.YtbabkcjnfdpafaaGreatDoor

/-- The cut. -/
def cutOff (v : Int) : Int := if v ≤ 1000000000001 then v else 1000000000001
theorem cutOff_of_le {v : Int} (h : v ≤ 1000000000000) : cutOff v = v := by unfold cutOff; rw [if_pos (by omega)]
theorem cutOff_of_gt {v : Int} (h : 1000000000000 < v) : cutOff v = 1000000000001 := by unfold cutOff; split <;> omega
theorem cutOff_if (v : Int) : cutOff v = if 1000000000001 < v then 1000000000001 else v := by unfold cutOff; split <;> split <;> omega
theorem cutOff_le (v : Int) : cutOff v ≤ 1000000000001 := by unfold cutOff; split <;> omega
theorem cutOff_nn {v : Int} (h : 0 ≤ v) : 0 ≤ cutOff v := by unfold cutOff; split <;> omega
/-- The simplex of dimension i and k, 1 for dimension 0, cut off. -/
def sx (k : Int) : Nat → Int
  | 0 => 1
  | i + 1 => cutOff (sx k i * (k + ((i : Int) + 1) - 1) / ((i : Int) + 1))
theorem sx_succ (k : Int) (i : Nat) : sx k (i + 1) = cutOff (sx k i * (k + ((i : Int) + 1) - 1) / ((i : Int) + 1)) := rfl
theorem sx_nn (k : Int) (hk : 0 ≤ k) (i : Nat) : 0 ≤ sx k i := by
  induction i with
  | zero => simp [sx]
  | succ i ih => exact cutOff_nn (Int.ediv_nonneg (Int.mul_nonneg ih (by omega)) (by omega))
theorem sx_le (k : Int) (i : Nat) : sx k i ≤ 1000000000001 := by
  cases i with
  | zero => simp [sx]
  | succ i => exact cutOff_le _
theorem sx_one (k : Int) (h : k ≤ 2000) : sx k 1 = k := by
  rw [sx_succ]
  have e : sx k 0 * (k + (((0 : Nat) : Int) + 1) - 1) / (((0 : Nat) : Int) + 1) = k := by
    rw [show sx k 0 = 1 from rfl]
    have e1 : (1 : Int) * (k + (((0 : Nat) : Int) + 1) - 1) = k := by omega
    rw [e1]
    simp
  rw [e]
  exact cutOff_of_le (by omega)
theorem sx_zero (i : Nat) : sx 0 (i + 1) = 0 := by
  induction i with
  | zero => exact sx_one 0 (by omega)
  | succ i ih => rw [sx_succ, ih]; simp [cutOff]
/-- What is cut off stays so. -/
theorem sx_stay (k : Int) (hk : 1 ≤ k) (i : Nat) (h : sx k i = 1000000000001) : sx k (i + 1) = 1000000000001 := by
  rw [sx_succ, h]
  refine cutOff_of_gt ?_
  have h1 : (1000000000001 : Int) * ((i : Int) + 1) ≤ 1000000000001 * (k + ((i : Int) + 1) - 1) := Int.mul_le_mul_of_nonneg_left (by omega) (by omega)
  have h2 := Int.ediv_le_ediv (a := (1000000000001 : Int) * ((i : Int) + 1)) (c := (i : Int) + 1) (by omega) h1
  rw [Int.mul_ediv_cancel _ (by omega)] at h2
  omega
theorem sx_stays (k : Int) (hk : 1 ≤ k) (i d : Nat) (h : sx k i = 1000000000001) : sx k (i + d) = 1000000000001 := by
  induction d with
  | zero => exact h
  | succ d ih => exact sx_stay k hk (i + d) ih
theorem sx_step (k : Int) (hk : 0 ≤ k) (hk2 : k ≤ 1999) (i : Nat) : sx k (i + 1) < sx (k + 1) (i + 1) ∨ (1 ≤ k ∧ sx k (i + 1) = 1000000000001 ∧ sx (k + 1) (i + 1) = 1000000000001) := by
  induction i with
  | zero => rw [sx_one k (by omega), sx_one (k + 1) (by omega)]; omega
  | succ i ih =>
    rcases ih with h | ⟨h1, h2, h3⟩
    · have a0 := sx_nn k hk (i + 1)
      have az : k = 0 → sx k (i + 1) = 0 := by rintro rfl; exact sx_zero i
      rw [sx_succ k (i + 1), sx_succ (k + 1) (i + 1)]
      generalize sx k (i + 1) = a at *
      generalize sx (k + 1) (i + 1) = b at *
      obtain ⟨c, hc⟩ : ∃ c : Int, c = ((i + 1 : Nat) : Int) + 1 := ⟨_, rfl⟩
      rw [← hc]
      have c1 : 2 ≤ c := by omega
      have hm : (a * (k + c - 1) + 1 * c) ≤ b * (k + 1 + c - 1) := by
        have h1 : (a + 1) * (k + 1 + c - 1) ≤ b * (k + 1 + c - 1) := Int.mul_le_mul_of_nonneg_right (by omega) (by omega)
        have h2 : (a + 1) * (k + 1 + c - 1) = a * (k + c - 1) + a + (k + c) := by grind
        omega
      have hd := Int.ediv_le_ediv (c := c) (by omega) hm
      rw [Int.add_mul_ediv_right _ _ (by omega)] at hd
      have vz : a = 0 → a * (k + c - 1) / c = 0 := by rintro rfl; simp
      generalize a * (k + c - 1) / c = v at *
      generalize b * (k + 1 + c - 1) / c = v' at *
      rcases Int.lt_or_le 1000000000000 v with h5 | h5
      · refine Or.inr ⟨?_, cutOff_of_gt h5, cutOff_of_gt (by omega)⟩
        rcases Int.lt_or_le 0 k with h6 | h6
        · omega
        · have := vz (az (by omega))
          omega
      · left
        rw [cutOff_of_le h5]
        unfold cutOff
        split <;> omega
    · exact Or.inr ⟨h1, sx_stay k h1 _ h2, sx_stay (k + 1) (by omega) _ h3⟩
theorem sx_mono (k : Int) (hk : 0 ≤ k) (d i : Nat) (h : k + d ≤ 2000) : sx k (i + 1) ≤ sx (k + d) (i + 1) := by
  induction d with
  | zero => simp
  | succ d ih =>
    have h1 := ih (by omega)
    have h2 := sx_step (k + d) (by omega) (by omega) i
    have e : k + ((d + 1 : Nat) : Int) = k + d + 1 := by omega
    rw [e]
    omega
theorem sx_le_of (a b : Int) (ha : 0 ≤ a) (h : a ≤ b) (hb : b ≤ 2000) (i : Nat) : sx a (i + 1) ≤ sx b (i + 1) := by
  have := sx_mono a ha (b - a).toNat i (by omega)
  rwa [show a + ((b - a).toNat : Int) = b from by omega] at this
theorem sx_lt_of (a b : Int) (ha : 0 ≤ a) (h : a < b) (hb : b ≤ 2000) (i : Nat) (hn : sx b (i + 1) ≤ 1000000000000) : sx a (i + 1) < sx b (i + 1) := by
  have h1 := sx_step a ha (by omega) i
  have h2 := sx_le_of (a + 1) b (by omega) (by omega) hb i
  omega
/-- The greatest k up to m whose simplex of dimension i + 1 is no greater than n. -/
def sl (i : Nat) (n : Int) : Nat → Nat
  | 0 => 0
  | m + 1 => if sx ((m : Int) + 1) (i + 1) ≤ n then m + 1 else sl i n m
theorem sl_is (i : Nat) (n : Int) (m : Nat) (hm : m ≤ 2000) : sl i n m ≤ m ∧ ∀ k : Nat, 1 ≤ k → k ≤ m → (sx k (i + 1) ≤ n ↔ k ≤ sl i n m) := by
  induction m with
  | zero => exact ⟨by simp [sl], fun k h1 h2 => by omega⟩
  | succ m ih =>
    obtain ⟨h1, h2⟩ := ih (by omega)
    rw [sl]
    by_cases h : sx ((m : Int) + 1) (i + 1) ≤ n
    · rw [if_pos h]
      refine ⟨by omega, fun k h3 h4 => ⟨fun _ => h4, fun _ => ?_⟩⟩
      have := sx_le_of k ((m : Int) + 1) (by omega) (by omega) (by omega) i
      omega
    · rw [if_neg h]
      refine ⟨by omega, fun k h3 h4 => ?_⟩
      rcases Nat.lt_or_ge k (m + 1) with h5 | h5
      · exact h2 k h3 (by omega)
      · have e : k = m + 1 := by omega
        subst e
        constructor
        · intro h6; exact absurd (by simpa using h6) h
        · intro h6; omega
/-- Where a simplex has n, the greatest one that fits is the first one. -/
theorem sl_first (i : Nat) (n : Int) (hn : 0 ≤ n) (h1 : n ≤ 1000000000000) (k : Nat) (hk : k ≤ 2000) (h : sx k (i + 1) = n) : k = sl i n 2000 := by
  obtain ⟨h2, h3⟩ := sl_is i n 2000 (by omega)
  rcases Nat.lt_or_ge (sl i n 2000) k with h4 | h4
  · have := (h3 k (by omega) hk).1 (by omega)
    omega
  · rcases Nat.lt_or_ge k (sl i n 2000) with h5 | h5
    · have h6 := (h3 (sl i n 2000) (by omega) h2).2 (Nat.le_refl _)
      have h7 := sx_lt_of k (sl i n 2000) (by omega) (by omega) (by omega) i (by omega)
      omega
    · omega
end Go.Proofs.YtbabkcjnfdpafaaGreatDoor

/- The laws FnExactSimplexNumber, FnExactSimplexPlace: the program's simplices are the specification's, whatever the arguments. No condition. -/
namespace Go.Proofs.YtbabkcjnfdpafaaGreatDoor
open Go.ChangeShapes Go.WideShapes Go.ChangeAt Go.RowKit

/-- What one step of a simplex asks. -/
theorem sx_bds (k : Int) (h3 : 0 ≤ k) (h4 : k ≤ 2000) (j : Nat) (hj : j < 8) : 0 ≤ sx k j * (k + ((j : Int) + 1) - 1) ∧ sx k j * (k + ((j : Int) + 1) - 1) ≤ 3000000000000000 := by
  have a0 := sx_nn k h3 j
  have a1 := sx_le k j
  refine ⟨Int.mul_nonneg a0 (by omega), ?_⟩
  have := Int.mul_le_mul (a := sx k j) (b := k + ((j : Int) + 1) - 1) (c := 1000000000001) (d := 2008) a1 (by omega) (by omega) (by omega)
  omega

/-! ### the place of a simplex -/
end Go.Proofs.YtbabkcjnfdpafaaGreatDoor

/- The cursor that draws arguments out of bytes: what each of its calls hands back lies within bounds, and nothing but its own box changes. -/
namespace Go.Proofs.YtbabkcjnfdpafaaGreatDoor
open Go.RowKit

theorem addr_blk (a : Addr) (j : Nat) : (a.add j).block = a.block := by
  unfold Addr.add
  by_cases h : j = 0 <;> simp [h]
/-- A cursor's box at r, not below B; the bytes that it reads lie below B; it has read at most k of them. -/
structure Cur (w : World) (B r : Nat) (A : Option Addr) (n c k : Nat) : Prop where
  lo : B ≤ r
  lt : r < w.heap.size
  c0 : w.cell? ⟨r, 0, none⟩ = some (.slice A n c)
  c1 : ∃ i : Nat, i ≤ k ∧ w.cell? ⟨r, 1, none⟩ = some (.int .i64 i)
  c2 : ∃ s : Int, 0 ≤ s ∧ s ≤ 18446744073709551615 ∧ w.cell? ⟨r, 2, none⟩ = some (.int .u64 s)
  f1 : w.frozen? ⟨r, 1, none⟩ = false
  f2 : w.frozen? ⟨r, 2, none⟩ = false
  bs : ∀ j, j < n → ∃ (a : Addr) (b : Int), A = some a ∧ a.block < B ∧ 0 ≤ b ∧ b ≤ 255 ∧ w.cell? (a.add j) = some (.int .u8 b)

theorem grown_set2 {w w' : World} {r : Nat} (h : w.grownBy w' (some r)) (o : Nat) (v : Value) : w.grownBy (w'.setCell ⟨r, o, none⟩ v) (some r) where
  os := h.os
  tape := h.tape
  output := h.output
  size := by simpa [World.setCell] using h.size
  block := fun i hi hr => by rw [← h.block i hi hr]; exact Below.heap_setCell _ _ _ _ (fun e => hr (by rw [e]))
theorem grown_trans {a b c : World} {row : Option Nat} (h1 : a.grownBy b row) (h2 : b.grownBy c row) : a.grownBy c row :=
  ⟨h2.os.trans h1.os, h2.tape.trans h1.tape, h2.output.trans h1.output, Nat.le_trans h1.size h2.size, fun i hi hr => (h2.block i (Nat.lt_of_lt_of_le hi h1.size) hr).trans (h1.block i hi hr)⟩

theorem u64_bds (x : Int) : 0 ≤ IntKind.u64.wrap x ∧ IntKind.u64.wrap x ≤ 18446744073709551615 := by
  rw [IntKind.wrap_u64]
  omega
theorem and255 (a : Int) (h0 : 0 ≤ a) (h1 : a ≤ 18446744073709551615) : 0 ≤ wrap64 (bits .and .u64 (a / 1099511627776) 255) ∧ wrap64 (bits .and .u64 (a / 1099511627776) 255) ≤ 255 := by
  have d0 : 0 ≤ a / 1099511627776 := by omega
  have d1 : a / 1099511627776 < 18446744073709551616 := by omega
  rw [u64_and _ _ d0 d1 (by omega) (by omega)]
  have l : (a / 1099511627776).toNat &&& (255 : Int).toNat ≤ 255 := Nat.and_le_right
  rw [← IntWalk.i64_left, IntWalk.i64_in _ (by omega)]
  omega
theorem cur_step {w : World} {B r : Nat} {A : Option Addr} {n c k : Nat} (h : Cur w B r A n c k) (q q' i : Nat) (hi : i ≤ k) (T : Int) (t0 : 0 ≤ T) (t1 : T ≤ 18446744073709551615) :
    Cur ((((w.drewN q).setCell ⟨r, 1, none⟩ (.int .i64 ((i : Int) + 1))).setCell ⟨r, 2, none⟩ (.int .u64 T)).drewN q') B r A n c (k + 1) ∧
      w.grownBy ((((w.drewN q).setCell ⟨r, 1, none⟩ (.int .i64 ((i : Int) + 1))).setCell ⟨r, 2, none⟩ (.int .u64 T)).drewN q') (some r) := by
  obtain ⟨lo, lt, c0, ⟨i', hi', c1⟩, ⟨s, s0, s1, c2⟩, f1, f2, bs⟩ := h
  have g0 : w.grownBy (((w.drewN q).setCell ⟨r, 1, none⟩ (.int .i64 ((i : Int) + 1))).setCell ⟨r, 2, none⟩ (.int .u64 T)) (some r) :=
    have g1 : w.grownBy (w.drewN q) (some r) := ⟨rfl, rfl, rfl, Nat.le_refl _, fun _ _ _ => rfl⟩
    grown_set2 (grown_set2 g1 1 _) 2 _
  have e0 : ∀ o v, o ≠ 0 → ∀ W : World, (W.setCell ⟨r, o, none⟩ v).cell? ⟨r, 0, none⟩ = W.cell? ⟨r, 0, none⟩ := fun o v ho W => World.cell?_setCell_other W _ _ _ (fun e => by injection e with _ e _; exact ho e)
  refine ⟨⟨lo, ?_, ?_, ⟨i + 1, by omega, ?_⟩, ⟨T, t0, t1, ?_⟩, ?_, ?_, fun j hj => ?_⟩, ⟨g0.os, g0.tape, g0.output, g0.size, g0.block⟩⟩
  · exact Nat.lt_of_lt_of_le lt g0.size
  · show World.cell? (((w.drewN q).setCell _ _).setCell _ _) _ = _
    rw [e0 2 _ (by omega), e0 1 _ (by omega)]
    exact c0
  · show World.cell? (((w.drewN q).setCell _ _).setCell _ _) _ = _
    rw [World.cell?_setCell_other _ _ _ _ (fun e => by injection e with _ e _; omega)]
    rw [World.cell?_setCell_same (w.drewN q) ⟨r, 1, none⟩ _ c1]
    simp
  · show World.cell? (((w.drewN q).setCell _ _).setCell _ _) _ = _
    have e2 : ((w.drewN q).setCell ⟨r, 1, none⟩ (.int .i64 ((i : Int) + 1))).cell? ⟨r, 2, none⟩ = some (.int .u64 s) := by
      rw [World.cell?_setCell_other _ _ _ _ (fun e => by injection e with _ e _; omega)]
      exact c2
    exact World.cell?_setCell_same _ ⟨r, 2, none⟩ _ e2
  · show World.frozen? (((w.drewN q).setCell _ _).setCell _ _) _ = _
    rw [World.frozen?_setCell, World.frozen?_setCell]
    exact f1
  · show World.frozen? (((w.drewN q).setCell _ _).setCell _ _) _ = _
    rw [World.frozen?_setCell, World.frozen?_setCell]
    exact f2
  · obtain ⟨a, b, e, hg, b0, b1, hb⟩ := bs j hj
    have hne : ∀ o, a.add j ≠ ⟨r, o, none⟩ := fun o e => by
      have := congrArg Addr.block e
      rw [addr_blk] at this
      simp at this
      omega
    refine ⟨a, b, e, hg, b0, b1, ?_⟩
    show World.cell? (((w.drewN q).setCell _ _).setCell _ _) _ = _
    rw [World.cell?_setCell_other _ _ _ _ (fun e => hne 2 e.symm), World.cell?_setCell_other _ _ _ _ (fun e => hne 1 e.symm)]
    exact hb

set_option maxHeartbeats 1600000 in
set_option maxRecDepth 4000 in
theorem next_any (B r : Nat) (A : Option Addr) (n c k : Nat) (w : World) (h : Cur w B r A n c k) (hk : k ≤ 1000000) (_hn : n ≤ 1000000000000) :
    Calls Tryz.prog 102 #[.pointer (some ⟨r, 0, none⟩)] w fun e w' => ∃ x : Int, e = .returned (.int .i64 x) ∧ 0 ≤ x ∧ x ≤ 255 ∧ Cur w' B r A n c (k + 1) ∧ w.grownBy w' (some r) := by
  have HC := Lib.hid h
  obtain ⟨lo, lt, c0, ⟨i, hi, c1⟩, ⟨s, s0, s1, c2⟩, f1, f2, bs⟩ := h
  have HBS := Lib.hid bs
  clear bs
  by_cases hlt : i < n
  · obtain ⟨a, b, rfl, hg, b0, b1, hb⟩ := HBS.out i hlt
    have hlt' : (i : Int) < (n : Int) := by omega
    go_enter Tryz.func102, Tryz.ntmps102
    go_wp2
    go_quiet (fail)
    go_wp2
    go_quiet (fail)
    go_wp2
    go_quiet (fail)
    go_wp2
    go_ret
    obtain ⟨t0, t1⟩ := u64_bds (IntKind.u64.wrap (IntKind.u64.wrap (s * 6364136223846793005) + b) + 1442695040888963407)
    exact ⟨b, rfl, b0, b1, cur_step HC.out _ _ i hi _ t0 t1⟩
  · have hlt' : decide ((i : Int) < (n : Int)) = false := by simp; omega
    have hlt2 : decide ((i : Int) + 1 ≤ (n : Int)) = false := by simp; omega
    go_enter Tryz.func102, Tryz.ntmps102
    go_wp2
    go_quiet (fail)
    go_wp2
    go_quiet (fail)
    go_wp2
    go_ret
    obtain ⟨t0, t1⟩ := u64_bds (IntKind.u64.wrap (IntKind.u64.wrap (s * 6364136223846793005)) + 1442695040888963407)
    obtain ⟨v0, v1⟩ := and255 _ t0 t1
    exact ⟨_, rfl, v0, v1, cur_step HC.out _ _ i hi _ t0 t1⟩
end Go.Proofs.YtbabkcjnfdpafaaGreatDoor

/- The cursor: a number below another one, a chance, one out of a list. -/
namespace Go.Proofs.YtbabkcjnfdpafaaGreatDoor
open Go.RowKit

theorem Cur.up {w : World} {B r : Nat} {A : Option Addr} {n c k k' : Nat} (h : Cur w B r A n c k) (hk : k ≤ k') : Cur w B r A n c k' := by
  obtain ⟨i, hi, e⟩ := h.c1
  exact ⟨h.lo, h.lt, h.c0, ⟨i, by omega, e⟩, h.c2, h.f1, h.f2, h.bs⟩
/-- What a call of the cursor leaves: its box moved on, all else as it was. -/
structure Drawn (w w' : World) (B r : Nat) (A : Option Addr) (n c k : Nat) : Prop where
  cur : Cur w' B r A n c k
  grown : w.grownBy w' (some r)
set_option maxHeartbeats 1600000 in
set_option maxRecDepth 4000 in
theorem pick_any (B r : Nat) (A : Option Addr) (n c k : Nat) (m : Int) (w : World) (h : Cur w B r A n c k) (hk : k ≤ 900000) (hn : n ≤ 1000000000000) (m0 : 1 ≤ m) (m1 : m ≤ 65536) :
    Calls Tryz.prog 78 #[.pointer (some ⟨r, 0, none⟩), .int .i64 m] w fun e w' => ∃ x : Int, e = .returned (.int .i64 x) ∧ 0 ≤ x ∧ x < m ∧ Drawn w w' B r A n c (k + 2) := by
  have HC := h
  have HG : w.grownBy w (some r) := World.grownBy.refl _ _
  clear h
  by_cases h1 : m ≤ 1
  · go_enter Tryz.func78, Tryz.ntmps78
    go_wp2
    go_ret
    exact ⟨0, rfl, by omega, by omega, HC.up (by omega), HG⟩
  · by_cases h2 : m ≤ 200
    · go_enter Tryz.func78, Tryz.ntmps78
      go_wp2_with (go_at_call 102; refine (next_any _ _ _ _ _ _ _ HC (by omega) hn).mono ?_; rintro e w1 ⟨x, rfl, x0, x1, hc, hg⟩; replace HC := hc; replace HG := grown_trans HG hg; clear hc hg)
      go_ret
      exact ⟨_, rfl, Int.emod_nonneg _ (by omega), Int.emod_lt_of_pos _ (by omega), HC.up (by omega), HG⟩
    · go_enter Tryz.func78, Tryz.ntmps78
      go_wp2_with (go_at_call 102; refine (next_any _ _ _ _ _ _ _ HC (by omega) hn).mono ?_; rintro e w1 ⟨x, rfl, x0, x1, hc, hg⟩; replace HC := hc; replace HG := grown_trans HG hg; clear hc hg)
      go_ret
      exact ⟨_, rfl, Int.emod_nonneg _ (by omega), Int.emod_lt_of_pos _ (by omega), HC.up (by omega), HG⟩

set_option maxHeartbeats 1600000 in
theorem one_any (B r : Nat) (A : Option Addr) (n c k : Nat) (m : Int) (w : World) (h : Cur w B r A n c k) (hk : k ≤ 900000) (hn : n ≤ 1000000000000) (m0 : 1 ≤ m) (m1 : m ≤ 65536) :
    Calls Tryz.prog 107 #[.pointer (some ⟨r, 0, none⟩), .int .i64 m] w fun e w' => ∃ b : Bool, e = .returned (.bool b) ∧ Drawn w w' B r A n c (k + 2) := by
  go_enter Tryz.func107, Tryz.ntmps107
  go_wp2_with (go_at_call 78; refine (pick_any _ _ _ _ _ _ _ _ h hk hn m0 m1).mono ?_; rintro e w1 ⟨x, rfl, x0, x1, hd⟩)
  go_ret
  exact ⟨_, rfl, hd⟩

set_option maxHeartbeats 1600000 in
theorem among_any (B r : Nat) (A : Option Addr) (n c k : Nat) (L : Option Addr) (m d : Nat) (xs : List Int) (lo hi : Nat) (w : World) (h : Cur w B r A n c k) (hk : k ≤ 900000) (hn : n ≤ 1000000000000) (hm : xs.length = m) (m0 : 1 ≤ m) (m1 : m ≤ 60000)
    (hl : Own w lo hi L (i64s xs)) (hr : r < lo ∨ hi ≤ r) (hw : hi ≤ w.heap.size) :
    Calls Tryz.prog 38 #[.pointer (some ⟨r, 0, none⟩), .slice L m d] w fun e w' => ∃ x : Int, e = .returned (.int .i64 x) ∧ x ∈ xs ∧ Drawn w w' B r A n c (k + 2) := by
  have HM := Lib.hid hm
  have HL := Lib.hid hl
  have i0 : 1 ≤ (m : Int) := by omega
  have i1 : (m : Int) ≤ 65536 := by omega
  clear hm hl
  go_enter Tryz.func38, Tryz.ntmps38
  go_wp2_with fail
  refine (pick_any _ _ _ _ _ _ _ _ h hk hn i0 i1).mono ?_
  rintro e w1 ⟨x, rfl, x0, x1, hd⟩
  obtain ⟨j, rfl⟩ := Int.eq_ofNat_of_zero_le x0
  have hj : j < m := by omega
  obtain ⟨g, o, rfl, g0, g1, hc, _⟩ := HL.out.at_ (k := j) (by simp [HM.out]; exact hj)
  have hcx : w1.cell? ⟨g, o + j, none⟩ = some (.int .i64 (xs[j]'(by rw [HM.out]; exact hj))) := by
    rw [World.cell?_of_block (w := w) (hd.grown.block g (by omega) (by intro e; injection e with e; omega)), hc]
    simp
  have hmem : Hid (xs[j]'(by rw [HM.out]; exact hj) ∈ xs) := Lib.hid (List.getElem_mem _)
  generalize xs[j]'(by rw [HM.out]; exact hj) = z at hcx hmem
  clear hc
  go_wp2
  go_ret
  exact ⟨z, rfl, hmem.out, hd⟩
end Go.Proofs.YtbabkcjnfdpafaaGreatDoor

/- The cursor's calls of chapters 1 and 3: sides, places, numbers, layers. Whatever the bytes, some numbers come out, and nothing but the cursor's box changes. -/
namespace Go.Proofs.YtbabkcjnfdpafaaGreatDoor
open Go.RowKit

theorem Cur.alloc {w : World} {B r : Nat} {A : Option Addr} {n c k : Nat} (h : Cur w B r A n c k) (hB : ∀ g, g < B → g < w.heap.size) (o : Obj) : Cur (w.alloc o) B r A n c k := by
  obtain ⟨lo, lt, c0, ⟨i, hi, c1⟩, ⟨s, s0, s1, c2⟩, f1, f2, bs⟩ := h
  have hb := (Below.refl w.heap.size w).alloc (Nat.le_refl _) o
  refine ⟨lo, Nat.lt_of_lt_of_le lt hb.size, ?_, ⟨i, hi, ?_⟩, ⟨s, s0, s1, ?_⟩, ?_, ?_, fun j hj => ?_⟩
  · rw [hb.cell (p := ⟨r, 0, none⟩) lt]; exact c0
  · rw [hb.cell (p := ⟨r, 1, none⟩) lt]; exact c1
  · rw [hb.cell (p := ⟨r, 2, none⟩) lt]; exact c2
  · rw [hb.frozen (p := ⟨r, 1, none⟩) lt]; exact f1
  · rw [hb.frozen (p := ⟨r, 2, none⟩) lt]; exact f2
  · obtain ⟨a, b, e, hg, b0, b1, hc⟩ := bs j hj
    exact ⟨a, b, e, hg, b0, b1, by rw [hb.cell (p := a.add j) (by rw [addr_blk]; exact hB _ hg)]; exact hc⟩
theorem Cur.alloc' {w : World} {B r : Nat} {A : Option Addr} {n c k : Nat} (h : Cur w B r A n c k) (o : Obj) : Cur (w.alloc o) B r A n c k :=
  h.alloc (fun g hg => by have := h.lo; have := h.lt; omega) o
/-- A list that has just been made. -/
theorem own_new (w : World) (xs : List Int) (t : TypeId) : Own (w.alloc (.cells (i64s xs).toArray t)) w.heap.size (w.alloc (.cells (i64s xs).toArray t)).heap.size (some ⟨w.heap.size, 0, none⟩) (i64s xs) := fun hn => by
  refine ⟨w.heap.size, 0, rfl, Nat.le_refl _, by simp, fun j u hu => ?_⟩
  have hj : j < (i64s xs).length := (List.getElem?_eq_some_iff.1 hu).1
  constructor
  · simp [go_sem]
    simpa using hu
  · simp [go_sem]
theorem drawn_trans {w w1 w2 : World} {B r : Nat} {A : Option Addr} {n c k k' : Nat} (h1 : w.grownBy w1 (some r)) (h2 : Drawn w1 w2 B r A n c k) (hk : k ≤ k') : Drawn w w2 B r A n c k' :=
  ⟨h2.cur.up hk, grown_trans h1 h2.grown⟩
theorem grown_alloc {w w1 : World} {r : Nat} (h : w.grownBy w1 (some r)) (o : Obj) : w.grownBy (w1.alloc o) (some r) := grown_trans h (World.grownBy_alloc w1 o _)

theorem half_bds (y z : Int) (y0 : 0 ≤ y) (y1 : y < 3) (z0 : 0 ≤ z) (z1 : z < 20) : 0 ≤ y / 2 * z ∧ y / 2 * z ≤ 19 := by
  rcases (show y / 2 = 0 ∨ y / 2 = 1 by omega) with h | h <;> rw [h] <;> omega
theorem num_mid (s k : Int) (h1 : 3 ≤ s) (h2 : s ≤ 24) (h3 : -3000000 ≤ k) (h4 : k ≤ 3000000) : 0 ≤ num s k ∧ num s k ≤ 400000000000000 := by
  have a := num_nn s k h1
  have b := num_twice s k
  obtain ⟨c0, c1, c2, c3, c4, c5, c6⟩ := num_bds s k h1 h2 h3 h4
  omega

end Go.Proofs.YtbabkcjnfdpafaaGreatDoor

/- The drawings of chapters 1 and 3: whatever the bytes (a million at most), numbers come out, and no old memory changes. -/
namespace Go.Proofs.YtbabkcjnfdpafaaGreatDoor
open Go.ChangeShapes Go.WideShapes Go.ChangeAt Go.RowKit

/-- Bytes that can be read. -/
def Bys (w : World) (A : Option Addr) (n : Nat) : Prop := ∀ j, j < n → ∃ (a : Addr) (b : Int), A = some a ∧ a.block < w.heap.size ∧ 0 ≤ b ∧ b ≤ 255 ∧ w.cell? (a.add j) = some (.int .u8 b)
theorem Bys.below {w w' : World} {A : Option Addr} {n B : Nat} (h : Bys w A n) (hb : Below B w w') (hB : w.heap.size ≤ B) : Bys w' A n := fun j hj => by
  obtain ⟨a, b, e, hg, b0, b1, hc⟩ := h j hj
  exact ⟨a, b, e, Nat.lt_of_lt_of_le hg hb.size, b0, b1, by rw [hb.cell (p := a.add j) (by rw [addr_blk]; exact Nat.lt_of_lt_of_le hg hB)]; exact hc⟩
theorem cur_new (w : World) (A : Option Addr) (n c : Nat) (T : TypeId) (h : Bys w A n) : Cur (w.alloc (.cells #[.slice A n c, .int .i64 0, .int .u64 0] T)) w.heap.size w.heap.size A n c 0 := by
  refine ⟨Nat.le_refl _, by simp, by simp [go_sem], ⟨0, Nat.le_refl _, by simp [go_sem]⟩, ⟨0, by omega, by omega, by simp [go_sem]⟩, by simp [go_sem], by simp [go_sem], fun j hj => ?_⟩
  obtain ⟨a, b, e, hg, b0, b1, hc⟩ := h j hj
  exact ⟨a, b, e, hg, b0, b1, by rw [((Below.refl w.heap.size w).alloc (Nat.le_refl _) _).cell (p := a.add j) (by rw [addr_blk]; exact hg)]; exact hc⟩
theorem drew_below {w w' : World} {o : Obj} (h : (w.alloc o).grownBy w' (some w.heap.size)) : Below w.heap.size w w' :=
  ((Below.refl w.heap.size w).alloc (Nat.le_refl _) o).grown h (by simp) (fun k e => by cases e; exact Nat.le_refl _)
/-- A []byte argument, opened. -/
theorem view_bytes {H : Type} {enc : TypeId × Value → H} {W : World} {t e : TypeId} {A : Option Addr} {n c : Nat} {d : DataW H} {p : List MemPlace}
    (ht : Tryz.prog.underlying t = some (.slice e)) (he : Tryz.prog.underlying e = some (.int .u8)) (hc : Tryz.prog.cellsOf e = 1)
    (hf : DataW.Trod enc Tryz.prog W 0 (fun _ => true) true t (.slice A n c) d p) : n ≤ 9223372036854775807 ∧ Bys W A n := by
  obtain ⟨fuel, hf⟩ := hf
  rcases open_ints ht he hc hf with ⟨hcs, hx⟩ | ⟨a, len', cap', zs, hcs, _, hl, hm, hz, hx, hcell, hwz⟩
  · simp [Value.cells] at hcs
    obtain ⟨rfl, rfl, rfl⟩ := hcs
    exact ⟨by omega, fun j h => absurd h (by omega)⟩
  · simp [Value.cells] at hcs
    obtain ⟨rfl, rfl, rfl⟩ := hcs
    simp only [if_true] at hz
    unfold maxLen at hm
    refine ⟨by omega, fun j hj => ⟨a, zs.getD j 0, rfl, ?_, ?_, ?_, hcell j (by omega)⟩⟩
    · have h2 := hcell 0 (by omega)
      have h3 : (a.add 0) = a := rfl
      rw [h3] at h2
      rcases Nat.lt_or_ge a.block W.heap.size with h4 | h4
      · exact h4
      · simp [World.cell?, Array.getElem?_eq_none h4] at h2
    · have hw := hwz (zs.getD j 0) (by simp [List.getD, List.getElem?_eq_getElem (show j < zs.length by omega)])
      generalize zs.getD j 0 = b at hw ⊢
      simp [Lit.wf, IntKind.min, IntKind.max, IntKind.bits, IntKind.signed] at hw
      omega
    · have hw := hwz (zs.getD j 0) (by simp [List.getD, List.getElem?_eq_getElem (show j < zs.length by omega)])
      generalize zs.getD j 0 = b at hw ⊢
      simp [Lit.wf, IntKind.min, IntKind.max, IntKind.bits, IntKind.signed] at hw
      omega
def bgB (n m : Nat) : Bool := decide (1048576 < n) || decide (1048576 - (n : Int) < (m : Int))
set_option maxHeartbeats 800000 in
theorem big_any (A B : Option Addr) (n c m d : Nat) (w : World) (hn : n ≤ 9223372036854775807) (_hm : m ≤ 9223372036854775807) :
    Calls Tryz.prog 5 #[.slice A n c, .slice B m d] w fun e w' => e = .returned (.bool (bgB n m)) ∧ w = w' := by
  rcases Nat.lt_or_ge 1048576 n with h | h
  · have h1 : (1048576 : Int) < (n : Int) := by omega
    have HE : Hid (bgB n m = true) := Lib.hid (by simp [bgB, h])
    go_enter Tryz.func5, Tryz.ntmps5
    go_wp2
    go_ret
    exact ⟨by rw [HE.out]; rfl, rfl⟩
  · have h1 : ¬ (1048576 : Int) < (n : Int) := by omega
    have h2 : decide ((1048576 : Int) < (n : Int)) = false := by simp; omega
    have HE : Hid (bgB n m = decide (1048576 - (n : Int) < (m : Int))) := Lib.hid (by simp [bgB]; omega)
    go_enter Tryz.func5, Tryz.ntmps5
    go_wp2
    go_ret
    exact ⟨by rw [HE.out]; rfl, rfl⟩
theorem bg_no {n m : Nat} (h : bgB n m = false) : n ≤ 1048576 ∧ m ≤ 1048576 := by
  simp [bgB] at h
  omega
set_option maxHeartbeats 800000 in
theorem l1Most_some (a b : Int) (w : World) (_h1 : -9000000000000000000 ≤ a) (_h2 : a ≤ 9000000000000000000) (_h3 : -9000000000000000000 ≤ b) (_h4 : b ≤ 9000000000000000000) :
    Calls Tryz.prog 103 #[.int .i64 a, .int .i64 b] w fun e w' => (∃ x : Int, e = .returned (.int .i64 x)) ∧ w = w' := by
  rcases Int.lt_or_le b a with h | h
  · go_enter Tryz.func103, Tryz.ntmps103
    go_wp2
    go_ret
    exact ⟨⟨_, rfl⟩, rfl⟩
  · go_enter Tryz.func103, Tryz.ntmps103
    go_wp2
    go_ret
    exact ⟨⟨_, rfl⟩, rfl⟩

end Go.Proofs.YtbabkcjnfdpafaaGreatDoor

/- Bytes that are carried from call to call. No condition. -/
namespace Go.Proofs.YtbabkcjnfdpafaaGreatDoor
open Go.RowKit
theorem Bys.on {w w' : World} {A : Option Addr} {n : Nat} (h : Bys w A n) (hb : Below w.heap.size w w') : Bys w' A n := h.below hb (Nat.le_refl _)
/-- A cursor that lies as it lay behind a call that turns no old memory. -/
theorem Cur.on {w w' : World} {B r : Nat} {A : Option Addr} {n c k : Nat} (h : Cur w B r A n c k) (hb : Below w.heap.size w w') : Cur w' B r A n c k := by
  obtain ⟨lo, lt, c0, ⟨i, hi, c1⟩, ⟨s, s0, s1, c2⟩, f1, f2, bs⟩ := h
  refine ⟨lo, Nat.lt_of_lt_of_le lt hb.size, ?_, ⟨i, hi, ?_⟩, ⟨s, s0, s1, ?_⟩, ?_, ?_, fun j hj => ?_⟩
  · rw [hb.cell (p := ⟨r, 0, none⟩) lt]; exact c0
  · rw [hb.cell (p := ⟨r, 1, none⟩) lt]; exact c1
  · rw [hb.cell (p := ⟨r, 2, none⟩) lt]; exact c2
  · rw [hb.frozen (p := ⟨r, 1, none⟩) lt]; exact f1
  · rw [hb.frozen (p := ⟨r, 2, none⟩) lt]; exact f2
  · obtain ⟨a, b, e, hg, b0, b1, hc⟩ := bs j hj
    exact ⟨a, b, e, hg, b0, b1, by rw [hb.cell (p := a.add j) (by rw [addr_blk]; exact Nat.lt_trans (Nat.lt_of_lt_of_le hg lo) lt)]; exact hc⟩
theorem grown_below {w w1 w' : World} {r : Nat} (h : w.grownBy w1 (some r)) (hb : Below w1.heap.size w1 w') : w.grownBy w' (some r) :=
  ⟨hb.os.trans h.os, hb.tape.trans h.tape, hb.output.trans h.output, Nat.le_trans h.size hb.size, fun i hi hr => (hb.block i (Nat.lt_of_lt_of_le hi h.size)).trans (h.block i hi hr)⟩
end Go.Proofs.YtbabkcjnfdpafaaGreatDoor

/- The drawings of chapter 7's pictures: whatever the bytes (a million at most), texts come out, and no old memory changes. -/
namespace Go.Proofs.YtbabkcjnfdpafaaGreatDoor
open Go.ChangeShapes Go.WideShapes Go.ChangeAt Go.RowKit

theorem conv_one9 (W : World) (b : Nat) (x : Int) (cap : Nat) (hc : W.cell? ⟨b, 0, none⟩ = some (.int .u8 x)) :
    (convert 22 9 (.slice (some ⟨b, 0, none⟩) 1 cap)).run Tryz.prog W = .ok (.string ⟨#[UInt8.ofNat x.toNat]⟩) W := by
  have h := run_convert_bytes_arg (P := Tryz.prog) W 22 5 Tryz.underlying22 Tryz.underlying5 b 0 1 cap [x] rfl
    (fun i hi => by
      have : i = 0 := by omega
      subst this
      simpa using hc) 9 Tryz.underlying9
  rw [h]
  rfl
theorem cat_run9 (x y : ByteArray) (h : x.size + y.size ≤ 1000000) (W : World) : (Op.stringOp .add x y).run Tryz.prog W = .ok (.string (x ++ y)) W := run_string_add_sum W x y (by omega)
set_option maxHeartbeats 3200000 in
set_option maxRecDepth 4000 in
theorem spoilt_any (B r : Nat) (A : Option Addr) (n c k : Nat) (s x : ByteArray) (w : World) (h : Cur w B r A n c k) (hk : k ≤ 700000) (hn : n ≤ 1000000000000) (hs : s.size ≤ 60000) (hx0 : 0 < x.size) (hx1 : x.size ≤ 60000) :
    Calls Tryz.prog 105 #[.pointer (some ⟨r, 0, none⟩), .string s, .string x] w fun e w' => (∃ t : ByteArray, e = .returned (.string t) ∧ t.size ≤ s.size + 2) ∧ Drawn w w' B r A n c (k + 40) := by
  have HC := h
  have HG : w.grownBy w (some r) := World.grownBy.refl _ _
  clear h
  have kc : ∀ (W : World) (x : Int) (c : Nat), (convert 22 9 (.slice (some ⟨W.heap.size, 0, none⟩) 1 c)).run Tryz.prog (W.alloc (.cells #[.int .u8 x] 5)) = .ok (.string ⟨#[UInt8.ofNat x.toNat]⟩) (W.alloc (.cells #[.int .u8 x] 5)) := fun W x c => conv_one9 _ _ x c (by simp [go_sem])
  go_enter Tryz.func105, Tryz.ntmps105
  go_wp2_with fail
  refine (pick_any _ _ _ _ _ _ _ _ HC (by omega) hn (by omega) (by omega)).mono ?_
  rintro e w1 ⟨y, rfl, y0, y1, hd⟩
  replace HC := hd.cur
  replace HG := grown_trans HG hd.grown
  clear hd
  go_wp2_with fail
  go_loopw [7, 1] (fun nv tv wr => ∃ (j : Nat) (t : ByteArray), nv = .int .i64 j ∧ j ≤ 2 ∧ tv = .string t ∧ t.size + j ≤ s.size + 2 ∧ Cur wr B r A n c (k + 2 + 12 * (2 - j)) ∧ w.grownBy wr (some r)) (fun nv _ _ => (intOf nv).toNat)
  case atStart =>
    obtain ⟨j, rfl⟩ : ∃ j : Nat, y = (j : Int) := ⟨y.toNat, by omega⟩
    exact ⟨j + 1, s, by go_num, by omega, rfl, by omega, HC.up (by omega), HG⟩
  case round =>
    obtain ⟨j, t, rfl, hj, rfl, hz, HC, HG⟩ := hrel
    rcases j with _ | j
    · simp only [Int.natCast_zero]
      go_wp2
      go_ret
      exact ⟨⟨t, rfl, by omega⟩, HC.up (by omega), HG⟩
    · simp only [Int.natCast_add, Int.natCast_one]
      have hj0 : (0 : Int) < (j : Int) + 1 := by omega
      rcases Nat.eq_zero_or_pos t.size with h0 | h0
      · have h1 : ¬ (0 : Int) < (t.size : Int) := by omega
        clear h0
        go_wp2
        go_ret
        exact ⟨⟨t, rfl, by omega⟩, HC.up (by omega), HG⟩
      · have h1 : (0 : Int) < (t.size : Int) := by omega
        have h3 : (0 : Int) < (x.size : Int) := by omega
        go_wp2_with fail
        refine (pick_any _ _ _ _ _ _ _ _ HC (by omega) hn (by omega) (by omega)).mono ?_
        rintro e w2 ⟨i, rfl, i0, i1, hd⟩
        obtain ⟨i, rfl⟩ : ∃ i' : Nat, i = (i' : Int) := ⟨i.toNat, by omega⟩
        replace HC := hd.cur
        replace HG := grown_trans HG hd.grown
        clear hd
        go_wp2_with fail
        refine (pick_any _ _ _ _ _ _ _ _ HC (by omega) hn (by omega) (by omega)).mono ?_
        rintro e w3 ⟨q, rfl, q0, q1, hd⟩
        replace HC := hd.cur
        replace HG := grown_trans HG hd.grown
        clear hd
        go_wp2_with fail
        refine (pick_any _ _ _ _ _ _ _ _ (HC.alloc' _) (by omega) hn (by omega) (by omega)).mono ?_
        rintro e w4 ⟨z, rfl, z0, z1, hd⟩
        replace HC := hd.cur
        replace HG := grown_trans (grown_alloc HG _) hd.grown
        clear hd
        have hw1 : (⟨#[x[q.toNat]]⟩ : ByteArray).size = 1 := rfl
        generalize (⟨#[x[q.toNat]]⟩ : ByteArray) = ww at hw1 ⊢
        have hi1 : (i : Int) ≤ (t.size : Int) := by omega
        have hi2 : (i : Int) + 1 ≤ (t.size : Int) := by omega
        have hi3 : i ≤ t.size := by omega
        have hi4 : i + 1 ≤ t.size := by omega
        have s1 : (t.extract 0 i).size = i := by simp; omega
        have s2 : (t.extract i t.size).size = t.size - i := by simp
        have s3 : (t.extract (i + 1) t.size).size = t.size - (i + 1) := by simp
        have c1 : ∀ W : World, (Op.stringOp .add (t.extract 0 i) ww).run Tryz.prog W = .ok (.string (t.extract 0 i ++ ww)) W := fun W => cat_run9 _ _ (by omega) W
        have s4 : (t.extract 0 i ++ ww).size = i + 1 := by rw [ByteArray.size_append, s1, hw1]
        have c2 : ∀ W : World, (Op.stringOp .add (t.extract 0 i ++ ww) (t.extract i t.size)).run Tryz.prog W = .ok (.string (t.extract 0 i ++ ww ++ t.extract i t.size)) W := fun W => cat_run9 _ _ (by omega) W
        have c3 : ∀ W : World, (Op.stringOp .add (t.extract 0 i ++ ww) (t.extract (i + 1) t.size)).run Tryz.prog W = .ok (.string (t.extract 0 i ++ ww ++ t.extract (i + 1) t.size)) W := fun W => cat_run9 _ _ (by omega) W
        have c4 : ∀ W : World, (Op.stringOp .add (t.extract 0 i) (t.extract (i + 1) t.size)).run Tryz.prog W = .ok (.string (t.extract 0 i ++ t.extract (i + 1) t.size)) W := fun W => cat_run9 _ _ (by omega) W
        have s5 : (t.extract 0 i ++ ww ++ t.extract i t.size).size = t.size + 1 := by rw [ByteArray.size_append, s4, s2]; omega
        have s6 : (t.extract 0 i ++ ww ++ t.extract (i + 1) t.size).size = t.size := by rw [ByteArray.size_append, s4, s3]; omega
        have s7 : (t.extract 0 i ++ t.extract (i + 1) t.size).size = t.size - 1 := by rw [ByteArray.size_append, s1, s3]; omega
        have SS := Lib.hid (And.intro s5 (And.intro s6 s7))
        clear s1 s2 s3 s4 s5 s6 s7
        have wj : IntKind.i64.wrap ((j : Int) + 1 - 1) = (j : Int) := by rw [IntWalk.i64_in _ (by omega)]; omega
        have wi : IntKind.i64.wrap ((i : Int) + 1) = ((i + 1 : Nat) : Int) := by rw [IntWalk.i64_in _ (by omega)]; omega
        have hi5 : ((i + 1 : Nat) : Int) ≤ (t.size : Int) := by omega
        have hi6 : (0 : Int) ≤ ((i + 1 : Nat) : Int) := by omega
        rcases (show z = 0 ∨ z = 1 ∨ z = 2 by omega) with rfl | rfl | rfl
        · go_wp2_with fail
          go_big_quiet (fail)
          go_wp2_with fail
          go_roundw
          case rel => exact ⟨j, _, by first | rfl | go_num, by omega, rfl, by have h := SS.out.1; omega, (HC.on (below_drewN (Below.refl _ _) _)).up (by omega), grown_below HG (below_drewN (Below.refl _ _) _)⟩
          case measure => simp [intOf]
        · go_wp2_with fail
          go_big_quiet (fail)
          go_wp2_with fail
          go_roundw
          case rel => exact ⟨j, _, by first | rfl | go_num, by omega, rfl, by have h := SS.out.2.1; omega, (HC.on (below_drewN (Below.refl _ _) _)).up (by omega), grown_below HG (below_drewN (Below.refl _ _) _)⟩
          case measure => simp [intOf]
        · go_wp2_with fail
          go_big_quiet (fail)
          go_wp2_with fail
          go_roundw
          case rel => exact ⟨j, _, by first | rfl | go_num, by omega, rfl, by have h := SS.out.2.2; omega, (HC.on (below_drewN (Below.refl _ _) _)).up (by omega), grown_below HG (below_drewN (Below.refl _ _) _)⟩
          case measure => simp [intOf]

theorem pic_sz (W H : Nat) (d : Nat → Bool) (w0 : 1 ≤ W) (w1 : W ≤ 24) (h0 : 1 ≤ H) (h1 : H ≤ 24) : (bt (gText W H d)).size ≤ 600 := by
  rw [bt_size]
  exact pic_600 (gText_pic W H d w0 w1 h0 h1)
/-- A shape, whatever its kind. -/
theorem shape_any (k b : Int) (w : World) (k0 : 1 ≤ k) (k1 : k ≤ 24) (hb : b = 116 ∨ b = 115 ∨ b = 103 ∨ b = 100 ∨ b = 104) :
    Calls Tryz.prog 43 #[.int .i64 k, .int .u8 b] w fun e w' => (∃ t : ByteArray, e = .returned (.string t) ∧ t.size ≤ 600) ∧ Below w.heap.size w w' := by
  obtain ⟨k, rfl⟩ := Int.eq_ofNat_of_zero_le (show 0 ≤ k by omega)
  have a : 1 ≤ k := by omega
  have c : k ≤ 24 := by omega
  rcases hb with rfl | rfl | rfl | rfl | rfl
  · exact (doShape_t k _ w rfl a c).mono fun e w' ⟨he, hb⟩ => ⟨⟨_, he, pic_sz _ _ _ a c a c⟩, hb⟩
  · exact (doShape_s k _ w rfl a c).mono fun e w' ⟨he, hb⟩ => ⟨⟨_, he, pic_sz _ _ _ a c a c⟩, hb⟩
  · exact (doShape_g k _ w rfl a c).mono fun e w' ⟨he, hb⟩ => ⟨⟨_, he, pic_sz _ _ _ a c a c⟩, hb⟩
  · exact (doShape_d k _ w rfl a c).mono fun e w' ⟨he, hb⟩ => ⟨⟨_, he, pic_sz _ _ _ a c a c⟩, hb⟩
  · exact (doShape_h k _ w rfl a c).mono fun e w' ⟨he, hb⟩ => ⟨⟨_, he, pic_sz _ _ _ a c a c⟩, hb⟩
set_option maxHeartbeats 1600000 in
theorem of_any (B r : Nat) (A : Option Addr) (n c k g m d : Nat) (w : World) (h : Cur w B r A n c k) (hk : k ≤ 900000) (hn : n ≤ 1000000000000) (m0 : 1 ≤ m) (m1 : m ≤ 60000) (hg : g < w.heap.size) (hr : g ≠ r)
    (hc : ∀ j, j < m → ∃ t : ByteArray, w.cell? ⟨g, j, none⟩ = some (.string t) ∧ t.size ≤ 100) :
    Calls Tryz.prog 106 #[.pointer (some ⟨r, 0, none⟩), .slice (some ⟨g, 0, none⟩) m d] w fun e w' => (∃ t : ByteArray, e = .returned (.string t) ∧ t.size ≤ 100) ∧ Drawn w w' B r A n c (k + 2) := by
  have HC := Lib.hid hc
  have i0 : 1 ≤ (m : Int) := by omega
  have i1 : (m : Int) ≤ 65536 := by omega
  clear hc
  go_enter Tryz.func106, Tryz.ntmps106
  go_wp2_with fail
  refine (pick_any _ _ _ _ _ _ _ _ h hk hn i0 i1).mono ?_
  rintro e w1 ⟨x, rfl, x0, x1, hd⟩
  obtain ⟨j, rfl⟩ := Int.eq_ofNat_of_zero_le x0
  obtain ⟨t, ht, hz⟩ := HC.out j (by omega)
  have hcx : w1.cell? ⟨g, j, none⟩ = some (.string t) := by
    rw [World.cell?_of_block (w := w) (hd.grown.block g hg (by intro e; injection e with e; first | exact hr e | exact hr e.symm)), ht]
  have hZ := Lib.hid hz
  clear ht hz
  go_wp2
  go_ret
  exact ⟨⟨t, rfl, hZ.out⟩, hd⟩
/-- A cursor's box, and bools being listed. -/
structure Stp (w0 : World) (B r : Nat) (A : Option Addr) (n c k : Nat) (v : Value) (d : Nat → Bool) (M : Nat) (w : World) : Prop where
  cur : Cur w B r A n c k
  grown : w0.grownBy w (some r)
  row : w.ownsRow w0.heap.size 4 1 v M (tbs d M)
  lt : r < w0.heap.size
theorem Stp.drawn {w0 w w' : World} {B r : Nat} {A : Option Addr} {n c k k' : Nat} {v : Value} {d : Nat → Bool} {M : Nat} (h : Stp w0 B r A n c k v d M w) (hd : Drawn w w' B r A n c k') : Stp w0 B r A n c k' v d M w' := by
  refine ⟨hd.cur, grown_trans h.grown hd.grown, h.row.kept hd.grown ?_, h.lt⟩
  cases hv : v.ownBlock with
  | none => exact .inl rfl
  | some g =>
    have h1 := (h.row.lt g hv).1
    have h2 := h.lt
    refine .inr ?_
    intro e
    injection e with e
    omega
theorem Cur.grown9 {w w' : World} {B r : Nat} {A : Option Addr} {n c k : Nat} {row : Option Nat} (h : Cur w B r A n c k) (hg : w.grownBy w' row) (hr : ∀ g, row = some g → r < g) : Cur w' B r A n c k := by
  obtain ⟨lo, lt, c0, ⟨i, hi, c1⟩, ⟨s, s0, s1, c2⟩, f1, f2, bs⟩ := h
  have hb : ∀ g, g ≤ r → w'.heap[g]? = w.heap[g]? := fun g h2 => hg.block g (by omega) (by
    intro e
    have := hr g (by first | exact e | exact e.symm)
    omega)
  have hR := hb r (Nat.le_refl _)
  refine ⟨lo, Nat.lt_of_lt_of_le lt hg.size, (World.cell?_of_block (a := ⟨r, 0, none⟩) hR).trans c0, ⟨i, hi, (World.cell?_of_block (a := ⟨r, 1, none⟩) hR).trans c1⟩, ⟨s, s0, s1, (World.cell?_of_block (a := ⟨r, 2, none⟩) hR).trans c2⟩, (World.frozen?_of_block (a := ⟨r, 1, none⟩) hR).trans f1, (World.frozen?_of_block (a := ⟨r, 2, none⟩) hR).trans f2, fun j hj => ?_⟩
  obtain ⟨a, b, e, h1, b0, b1, hc⟩ := bs j hj
  exact ⟨a, b, e, h1, b0, b1, (World.cell?_of_block (a := a.add j) (by rw [addr_blk]; exact hb a.block (by omega))).trans hc⟩
theorem Stp.app {w0 w w' : World} {B r : Nat} {A : Option Addr} {n c k : Nat} {v v' : Value} {d : Nat → Bool} {M : Nat} (h : Stp w0 B r A n c k v d M w) (hr : w'.ownsRow w0.heap.size 4 1 v' (M + 1) (tbs d (M + 1))) (hg : w.grownBy w' v.ownBlock) : Stp w0 B r A n c k v' d (M + 1) w' := by
  refine ⟨h.cur.grown9 hg fun g e => by have := (h.row.lt g e).1; have := h.lt; omega, ?_, hr, h.lt⟩
  have hG := h.grown
  refine ⟨hg.os.trans hG.os, hg.tape.trans hG.tape, hg.output.trans hG.output, Nat.le_trans hG.size hg.size, fun i hi hne => ?_⟩
  refine (hg.block i (Nat.lt_of_lt_of_le hi hG.size) ?_).trans (hG.block i hi hne)
  intro e
  have := (h.row.lt i (by first | exact e | exact e.symm)).1
  omega
theorem Stp.up {w0 w : World} {B r : Nat} {A : Option Addr} {n c k k' : Nat} {v : Value} {d : Nat → Bool} {M : Nat} (h : Stp w0 B r A n c k v d M w) (hk : k ≤ k') : Stp w0 B r A n c k' v d M w := ⟨h.cur.up hk, h.grown, h.row, h.lt⟩
/-- The same row, its next place named. -/
theorem Stp.next {w0 w : World} {B r : Nat} {A : Option Addr} {n c k : Nat} {v : Value} {d : Nat → Bool} {M : Nat} (h : Stp w0 B r A n c k v d M w) (b : Bool) : Stp w0 B r A n c k v (fun i => if i < M then d i else b) M w := by
  refine ⟨h.cur, h.grown, ?_, h.lt⟩
  have e : tbs (fun i => if i < M then d i else b) M = tbs d M := tbs_congr fun m hm => by rw [if_pos hm]
  rw [e]
  exact h.row
set_option maxHeartbeats 6400000 in
set_option maxRecDepth 4000 in
theorem picture_any (B r : Nat) (A : Option Addr) (n c k : Nat) (w : World) (h : Cur w B r A n c k) (hk : k ≤ 600000) (hn : n ≤ 1000000000000) :
    Calls Tryz.prog 92 #[.pointer (some ⟨r, 0, none⟩)] w fun e w' => (∃ t : ByteArray, e = .returned (.string t) ∧ t.size ≤ 1000) ∧ Drawn w w' B r A n c (k + 200) := by
  have HC := h
  have HG : w.grownBy w (some r) := World.grownBy.refl _ _
  clear h
  go_enter Tryz.func92, Tryz.ntmps92
  go_wp2_with fail
  refine (pick_any _ _ _ _ _ _ _ _ HC (by omega) hn (by omega) (by omega)).mono ?_
  rintro e w1 ⟨z, rfl, z0, z1, hd⟩
  replace HC := hd.cur
  replace HG := grown_trans HG hd.grown
  clear hd
  rcases (show z = 0 ∨ z = 1 ∨ z = 2 ∨ z = 3 ∨ 4 ≤ z by omega) with rfl | rfl | rfl | rfl | hz
  · clear z0 z1
    go_wp2_with fail
    refine (pick_any _ _ _ _ _ _ _ _ HC (by omega) hn (by omega) (by omega)).mono ?_
    rintro e w1 ⟨x, rfl, x0, x1, hd⟩
    replace HC := hd.cur
    replace HG := grown_trans HG hd.grown
    clear hd
    go_wp2_with fail
    refine (shape_any _ _ _ (by omega) (by omega) (by first | decide | simp)).mono ?_
    rintro e w1 ⟨⟨t, rfl, tz⟩, hb⟩
    replace HG := grown_below HG hb
    replace HC := HC.on hb
    clear hb
    go_wp2_with fail
    refine (spoilt_any _ _ _ _ _ _ t _ _ HC (by omega) hn (by omega) (by decide) (by decide)).mono ?_
    rintro e w1 ⟨⟨u, rfl, uz⟩, hd⟩
    replace HC := hd.cur
    replace HG := grown_trans HG hd.grown
    clear hd
    go_wp2
    go_ret
    exact ⟨⟨_, rfl, by omega⟩, HC.up (by omega), HG⟩
  · clear z0 z1
    go_wp2_with fail
    refine (pick_any _ _ _ _ _ _ _ _ HC (by omega) hn (by omega) (by omega)).mono ?_
    rintro e w1 ⟨x, rfl, x0, x1, hd⟩
    replace HC := hd.cur
    replace HG := grown_trans HG hd.grown
    clear hd
    go_wp2_with fail
    refine (pick_any _ _ _ _ _ _ _ _ HC (by omega) hn (by omega) (by omega)).mono ?_
    rintro e w1 ⟨y, rfl, y0, y1, hd⟩
    replace HC := hd.cur
    replace HG := grown_trans HG hd.grown
    clear hd
    rcases (show y = 0 ∨ y = 1 ∨ y = 2 ∨ y = 3 ∨ y = 4 by omega) with rfl | rfl | rfl | rfl | rfl
    · clear y0 y1
      go_wp2_with fail
      refine (shape_any _ _ _ (by omega) (by omega) (by first | decide | simp)).mono ?_
      rintro e w1 ⟨⟨t, rfl, tz⟩, hb⟩
      replace HG := grown_below HG hb
      replace HC := HC.on hb
      clear hb
      go_wp2
      go_ret
      exact ⟨⟨_, rfl, by omega⟩, HC.up (by omega), HG⟩
    · clear y0 y1
      go_wp2_with fail
      refine (shape_any _ _ _ (by omega) (by omega) (by first | decide | simp)).mono ?_
      rintro e w1 ⟨⟨t, rfl, tz⟩, hb⟩
      replace HG := grown_below HG hb
      replace HC := HC.on hb
      clear hb
      go_wp2
      go_ret
      exact ⟨⟨_, rfl, by omega⟩, HC.up (by omega), HG⟩
    · clear y0 y1
      go_wp2_with fail
      refine (shape_any _ _ _ (by omega) (by omega) (by first | decide | simp)).mono ?_
      rintro e w1 ⟨⟨t, rfl, tz⟩, hb⟩
      replace HG := grown_below HG hb
      replace HC := HC.on hb
      clear hb
      go_wp2
      go_ret
      exact ⟨⟨_, rfl, by omega⟩, HC.up (by omega), HG⟩
    · clear y0 y1
      go_wp2_with fail
      refine (shape_any _ _ _ (by omega) (by omega) (by first | decide | simp)).mono ?_
      rintro e w1 ⟨⟨t, rfl, tz⟩, hb⟩
      replace HG := grown_below HG hb
      replace HC := HC.on hb
      clear hb
      go_wp2
      go_ret
      exact ⟨⟨_, rfl, by omega⟩, HC.up (by omega), HG⟩
    · clear y0 y1
      go_wp2_with fail
      refine (shape_any _ _ _ (by omega) (by omega) (by first | decide | simp)).mono ?_
      rintro e w1 ⟨⟨t, rfl, tz⟩, hb⟩
      replace HG := grown_below HG hb
      replace HC := HC.on hb
      clear hb
      go_wp2
      go_ret
      exact ⟨⟨_, rfl, by omega⟩, HC.up (by omega), HG⟩
  · clear z0 z1
    go_wp2_with fail
    refine (pick_any _ _ _ _ _ _ _ _ HC (by omega) hn (by omega) (by omega)).mono ?_
    rintro e w1 ⟨x, rfl, x0, x1, hd⟩
    replace HC := hd.cur
    replace HG := grown_trans HG hd.grown
    clear hd
    go_wp2_with fail
    refine (pick_any _ _ _ _ _ _ _ _ HC (by omega) hn (by omega) (by omega)).mono ?_
    rintro e w1 ⟨y, rfl, y0, y1, hd⟩
    replace HC := hd.cur
    replace HG := grown_trans HG hd.grown
    clear hd
    have w1 : IntKind.i64.wrap (2 * (1 + x)) = 2 * (1 + x) := IntWalk.i64_in _ (by omega)
    have w2 : IntKind.i64.wrap (2 * (1 + x) - 1) = 2 * (1 + x) - 1 := IntWalk.i64_in _ (by omega)
    rcases (show y = 0 ∨ y = 1 by omega) with rfl | rfl
    · clear y0 y1
      go_wp2_with fail
      refine (shape_any _ _ _ (by omega) (by omega) (by first | decide | simp)).mono ?_
      rintro e w1 ⟨⟨t, rfl, tz⟩, hb⟩
      replace HG := grown_below HG hb
      replace HC := HC.on hb
      clear hb
      go_wp2
      go_ret
      exact ⟨⟨_, rfl, by omega⟩, HC.up (by omega), HG⟩
    · clear y0 y1
      go_wp2_with fail
      refine (shape_any _ _ _ (by omega) (by omega) (by first | decide | simp)).mono ?_
      rintro e w1 ⟨⟨t, rfl, tz⟩, hb⟩
      replace HG := grown_below HG hb
      replace HC := HC.on hb
      clear hb
      go_wp2
      go_ret
      exact ⟨⟨_, rfl, by omega⟩, HC.up (by omega), HG⟩
  · clear z0 z1
    go_wp2_with fail
    refine (of_any _ _ _ _ _ _ _ 7 _ _ (HC.alloc' _) (by omega) hn (by omega) (by omega) (by simp) (by have := HC.lt; omega) (fun j hj => by
      rcases (show j = 0 ∨ j = 1 ∨ j = 2 ∨ j = 3 ∨ j = 4 ∨ j = 5 ∨ j = 6 by omega) with rfl | rfl | rfl | rfl | rfl | rfl | rfl <;> exact ⟨_, by simp [go_sem]; rfl, by decide⟩)).mono ?_
    rintro e w1 ⟨⟨t, rfl, tz⟩, hd⟩
    replace HC := hd.cur
    replace HG := grown_trans (grown_alloc HG _) hd.grown
    clear hd
    go_wp2
    go_ret
    exact ⟨⟨_, rfl, by omega⟩, HC.up (by omega), HG⟩
  · have n0 : ¬ z = 0 := by omega
    have n1 : ¬ z = 1 := by omega
    have n2 : ¬ z = 2 := by omega
    have n3 : ¬ z = 3 := by omega
    have m0 : decide (z = 0) = false := decide_eq_false n0
    have m1 : decide (z = 1) = false := decide_eq_false n1
    have m2 : decide (z = 2) = false := decide_eq_false n2
    have m3 : decide (z = 3) = false := decide_eq_false n3
    clear z0 z1 hz
    go_wp2_with fail
    refine (pick_any _ _ _ _ _ _ _ _ HC (by omega) hn (by omega) (by omega)).mono ?_
    rintro e w1 ⟨x, rfl, x0, x1, hd⟩
    replace HC := hd.cur
    replace HG := grown_trans HG hd.grown
    clear hd
    obtain ⟨x, rfl⟩ := Int.eq_ofNat_of_zero_le x0
    go_wp2_with fail
    refine (pick_any _ _ _ _ _ _ _ _ HC (by omega) hn (by omega) (by omega)).mono ?_
    rintro e w1 ⟨y, rfl, y0, y1, hd⟩
    replace HC := hd.cur
    replace HG := grown_trans HG hd.grown
    clear hd
    obtain ⟨y, rfl⟩ := Int.eq_ofNat_of_zero_le y0
    clear n0 n1 n2 n3 m0 m1 m2 m3
    obtain ⟨N, hN⟩ : ∃ N, N = (1 + x) * (1 + y) := ⟨_, rfl⟩
    have hN0 : 1 ≤ N := by rw [hN]; exact Nat.mul_pos (by omega) (by omega)
    have hN1 : N ≤ 25 := by rw [hN]; exact Nat.mul_le_mul (show 1 + x ≤ 5 by omega) (show 1 + y ≤ 5 by omega)
    have eN : (1 + (x : Int)) * (1 + (y : Int)) = (N : Int) := by rw [hN, Int.natCast_mul, Int.natCast_add, Int.natCast_add]; rfl
    have wm : IntKind.i64.wrap ((1 + (x : Int)) * (1 + (y : Int))) = (N : Int) := by rw [eN]; exact IntWalk.i64_in _ (by omega)
    have HK := Lib.hid fun (g c lo : Nat) (w' : World) (d : Nat → Bool) (b : Marks w' lo g N c d) => make_of b hN (by omega) (by omega) (by omega) (by omega)
    have HZ := Lib.hid fun (d : Nat → Bool) => pic_sz (1 + x) (1 + y) d (by omega) (by omega) (by omega) (by omega)
    have e1 : ((1 + x : Nat) : Int) = 1 + (x : Int) := by omega
    have e2 : ((1 + y : Nat) : Int) = 1 + (y : Int) := by omega
    rw [e1, e2] at HK
    clear eN hN e1 e2
    have ST0 := Lib.hid (show Stp w1 B r A n c (k + 8) (.slice none 0 0) (fun _ => false) 0 w1 from ⟨HC.up (by omega), World.grownBy.refl _ _, World.ownsRow_nil _ _ _ _, HC.lt⟩)
    clear HC
    go_wp2_with fail
    go_loopw [5, 6] (fun v i wr => ∃ (j : Nat) (d : Nat → Bool), j ≤ N ∧ i = .int .i64 (j : Int) ∧ Hid (Stp w1 B r A n c (k + 8 + 2 * j) v d j wr)) (fun _ i _ => N - (intOf i).toNat)
    case atStart => exact ⟨0, _, Nat.zero_le _, rfl, ST0⟩
    case round =>
      obtain ⟨j, d, hj, rfl, ST⟩ := hrel
      by_cases hlt : j < N
      · have hlt2 : (j : Int) < (N : Int) := by omega
        go_wp2_with fail
        refine (one_any _ _ _ _ _ _ _ _ ST.out.cur (by omega) hn (by omega) (by omega)).mono ?_
        rintro e w2 ⟨b, rfl, hd⟩
        have ST2 := Lib.hid ((ST.out.drawn hd).next (!b))
        clear hd ST
        have hS := ST2.out.grown.size
        have hj9 : j ≤ 100000 := by omega
        go_wp2_with (first
          | (at_builtin; refine app_bool w1.heap.size _ rfl _ _ rfl _ (fun i => if i < j then d i else !b) j rfl ST2.out.row hS _ rfl ?hz hj9 ?_; rotate_left; intro v' w4 hG4 hg4))
        try (case hz => simp)
        all_goals
          have ST3 := Lib.hid (ST2.out.app hG4 hg4)
          clear hG4 hg4 ST2 hS
          go_wp2
          go_roundw
          case rel => exact ⟨j + 1, _, by omega, by go_num, Lib.hid (ST3.out.up (by omega))⟩
          case measure => simp [intOf]; omega
      · obtain rfl : j = N := by omega
        have hlt2 : ¬ (j : Int) < (j : Int) := by omega
        obtain ⟨g2, c2, rfl, hc2, hcm, hr⟩ := marks_of_row ST.out.row hN0
        have HK2 := Lib.hid (HK.out g2 c2 _ _ _ hr)
        clear hr hc2 hcm
        go_wp2_with (go_at_call 68; refine HK2.out.mono ?_; rintro e w4 ⟨rfl, hb4⟩)
        go_ret
        exact ⟨⟨_, rfl, by have := HZ.out d; omega⟩, (ST.out.cur.on hb4).up (by omega), grown_below (grown_trans HG ST.out.grown) hb4⟩
set_option maxHeartbeats 3200000 in
set_option maxRecDepth 4000 in
theorem DrawIsPicture_any (A : Option Addr) (n c : Nat) (w : World) (h : Bys w A n) (hn : n ≤ 1000000000000) :
    Calls Tryz.prog 61 #[.slice A n c] w fun e w' => (∃ t : ByteArray, e = .returned (.string t) ∧ t.size ≤ 1000) ∧ Below w.heap.size w w' := by
  have HC := cur_new w A n c 47 h
  have HG : (w.alloc (.cells #[.slice A n c, .int .i64 0, .int .u64 0] 47)).grownBy (w.alloc (.cells #[.slice A n c, .int .i64 0, .int .u64 0] 47)) (some w.heap.size) := World.grownBy.refl _ _
  go_enter Tryz.func61, Tryz.ntmps61
  go_upto_region 2 with (fail)
  generalize hw0 : w.alloc (.cells #[.slice A n c, .int .i64 0, .int .u64 0] 47) = w0 at HC HG ⊢
  have HW := Lib.hid hw0
  clear hw0
  go_wp2_with fail
  refine (picture_any _ _ _ _ _ _ _ HC (by omega) hn).mono ?_
  rintro e w1 ⟨⟨p, rfl, pz⟩, hd⟩
  replace HC := hd.cur
  replace HG := grown_trans HG hd.grown
  clear hd
  go_wp2
  go_ret
  exact ⟨⟨p, rfl, pz⟩, drew_below (by rw [HW.out]; exact HG)⟩
theorem DrawLayersOfPicture_any (A : Option Addr) (n c : Nat) (w : World) (h : Bys w A n) (hn : n ≤ 1000000000000) :
    Calls Tryz.prog 23 #[.slice A n c] w fun e w' => (∃ t : ByteArray, e = .returned (.string t) ∧ t.size ≤ 1000) ∧ Below w.heap.size w w' := by
  go_enter Tryz.func23, Tryz.ntmps23
  go_wp2_with fail
  refine (DrawIsPicture_any A n c _ h hn).mono ?_
  rintro e w1 ⟨⟨t, rfl, tz⟩, hb⟩
  go_wp2
  go_ret
  exact ⟨⟨t, rfl, tz⟩, hb⟩
theorem kind2 (y : Int) (h : y.toNat < (⟨#[116, 115]⟩ : ByteArray).size) : (((⟨#[116, 115]⟩ : ByteArray)[y.toNat]'h).toNat : Int) = 116 ∨ (((⟨#[116, 115]⟩ : ByteArray)[y.toNat]'h).toNat : Int) = 115 ∨ (((⟨#[116, 115]⟩ : ByteArray)[y.toNat]'h).toNat : Int) = 103 ∨ (((⟨#[116, 115]⟩ : ByteArray)[y.toNat]'h).toNat : Int) = 100 ∨ (((⟨#[116, 115]⟩ : ByteArray)[y.toNat]'h).toNat : Int) = 104 := by
  generalize hk : y.toNat = k at h
  have h2 : k < 2 := h
  rcases (show k = 0 ∨ k = 1 by omega) with rfl | rfl
  · left; rfl
  · right; left; rfl
set_option maxHeartbeats 3200000 in
set_option maxRecDepth 4000 in
theorem DrawTrianglePicture_any (A : Option Addr) (n c : Nat) (w : World) (h : Bys w A n) (hn : n ≤ 1000000000000) :
    Calls Tryz.prog 6 #[.slice A n c] w fun e w' => (∃ x : Int, e = .returned (.int .i64 x)) ∧ Below w.heap.size w w' := by
  have HC := cur_new w A n c 47 h
  have HG : (w.alloc (.cells #[.slice A n c, .int .i64 0, .int .u64 0] 47)).grownBy (w.alloc (.cells #[.slice A n c, .int .i64 0, .int .u64 0] 47)) (some w.heap.size) := World.grownBy.refl _ _
  go_enter Tryz.func6, Tryz.ntmps6
  go_upto_region 2 with (fail)
  generalize hw0 : w.alloc (.cells #[.slice A n c, .int .i64 0, .int .u64 0] 47) = w0 at HC HG ⊢
  have HW := Lib.hid hw0
  clear hw0
  go_wp2_with fail
  refine (among_any _ _ _ _ _ _ _ 12 _ [1, 2, 3, 4, 5, 9, 12, 13, 24, 25, 0, -1] _ _ _ (HC.alloc' _) (by omega) hn rfl (by omega) (by omega) (own_new _ [1, 2, 3, 4, 5, 9, 12, 13, 24, 25, 0, -1] _) (Or.inl HC.lt) (Nat.le_refl _)).mono ?_
  rintro e w1 ⟨x, rfl, xm, hd⟩
  replace HC := hd.cur
  replace HG := grown_trans (grown_alloc HG _) hd.grown
  clear hd
  go_wp2
  go_ret
  exact ⟨⟨x, rfl⟩, drew_below (by rw [HW.out]; exact HG)⟩
end Go.Proofs.YtbabkcjnfdpafaaGreatDoor
