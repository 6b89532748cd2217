/- Simplices, cut off above MaxStacked. No program in sight. -/
import Derived.Test.YtjfkeflmbgfhmaaGreatDoorNum
namespace Go.Proofs.YtjfkeflmbgfhmaaGreatDoor

/-- The cut. -/
def cutOff (v : Int) : Int := if v ≤ 1000000000001 then v else 1000000000001
theorem cutOff_of_le {v : Int} (h : v ≤ 1000000000000) : cutOff v = v := by unfold cutOff; rw [if_pos (by omega)]
theorem cutOff_of_gt {v : Int} (h : 1000000000000 < v) : cutOff v = 1000000000001 := by unfold cutOff; split <;> omega
theorem cutOff_if (v : Int) : cutOff v = if 1000000000001 < v then 1000000000001 else v := by unfold cutOff; split <;> split <;> omega
theorem cutOff_le (v : Int) : cutOff v ≤ 1000000000001 := by unfold cutOff; split <;> omega
theorem cutOff_nn {v : Int} (h : 0 ≤ v) : 0 ≤ cutOff v := by unfold cutOff; split <;> omega
/-- The simplex of dimension i and k, 1 for dimension 0, cut off. -/
def sx (k : Int) : Nat → Int
  | 0 => 1
  | i + 1 => cutOff (sx k i * (k + ((i : Int) + 1) - 1) / ((i : Int) + 1))
theorem sx_succ (k : Int) (i : Nat) : sx k (i + 1) = cutOff (sx k i * (k + ((i : Int) + 1) - 1) / ((i : Int) + 1)) := rfl
theorem sx_nn (k : Int) (hk : 0 ≤ k) (i : Nat) : 0 ≤ sx k i := by
  induction i with
  | zero => simp [sx]
  | succ i ih => exact cutOff_nn (Int.ediv_nonneg (Int.mul_nonneg ih (by omega)) (by omega))
theorem sx_le (k : Int) (i : Nat) : sx k i ≤ 1000000000001 := by
  cases i with
  | zero => simp [sx]
  | succ i => exact cutOff_le _
theorem sx_one (k : Int) (h : k ≤ 2000) : sx k 1 = k := by
  rw [sx_succ]
  have e : sx k 0 * (k + (((0 : Nat) : Int) + 1) - 1) / (((0 : Nat) : Int) + 1) = k := by
    rw [show sx k 0 = 1 from rfl]
    have e1 : (1 : Int) * (k + (((0 : Nat) : Int) + 1) - 1) = k := by omega
    rw [e1]
    simp
  rw [e]
  exact cutOff_of_le (by omega)
theorem sx_zero (i : Nat) : sx 0 (i + 1) = 0 := by
  induction i with
  | zero => exact sx_one 0 (by omega)
  | succ i ih => rw [sx_succ, ih]; simp [cutOff]
/-- What is cut off stays so. -/
theorem sx_stay (k : Int) (hk : 1 ≤ k) (i : Nat) (h : sx k i = 1000000000001) : sx k (i + 1) = 1000000000001 := by
  rw [sx_succ, h]
  refine cutOff_of_gt ?_
  have h1 : (1000000000001 : Int) * ((i : Int) + 1) ≤ 1000000000001 * (k + ((i : Int) + 1) - 1) := Int.mul_le_mul_of_nonneg_left (by omega) (by omega)
  have h2 := Int.ediv_le_ediv (a := (1000000000001 : Int) * ((i : Int) + 1)) (c := (i : Int) + 1) (by omega) h1
  rw [Int.mul_ediv_cancel _ (by omega)] at h2
  omega
theorem sx_stays (k : Int) (hk : 1 ≤ k) (i d : Nat) (h : sx k i = 1000000000001) : sx k (i + d) = 1000000000001 := by
  induction d with
  | zero => exact h
  | succ d ih => exact sx_stay k hk (i + d) ih
theorem sx_step (k : Int) (hk : 0 ≤ k) (hk2 : k ≤ 1999) (i : Nat) : sx k (i + 1) < sx (k + 1) (i + 1) ∨ (1 ≤ k ∧ sx k (i + 1) = 1000000000001 ∧ sx (k + 1) (i + 1) = 1000000000001) := by
  induction i with
  | zero => rw [sx_one k (by omega), sx_one (k + 1) (by omega)]; omega
  | succ i ih =>
    rcases ih with h | ⟨h1, h2, h3⟩
    · have a0 := sx_nn k hk (i + 1)
      have az : k = 0 → sx k (i + 1) = 0 := by rintro rfl; exact sx_zero i
      rw [sx_succ k (i + 1), sx_succ (k + 1) (i + 1)]
      generalize sx k (i + 1) = a at *
      generalize sx (k + 1) (i + 1) = b at *
      obtain ⟨c, hc⟩ : ∃ c : Int, c = ((i + 1 : Nat) : Int) + 1 := ⟨_, rfl⟩
      rw [← hc]
      have c1 : 2 ≤ c := by omega
      have hm : (a * (k + c - 1) + 1 * c) ≤ b * (k + 1 + c - 1) := by
        have h1 : (a + 1) * (k + 1 + c - 1) ≤ b * (k + 1 + c - 1) := Int.mul_le_mul_of_nonneg_right (by omega) (by omega)
        have h2 : (a + 1) * (k + 1 + c - 1) = a * (k + c - 1) + a + (k + c) := by grind
        omega
      have hd := Int.ediv_le_ediv (c := c) (by omega) hm
      rw [Int.add_mul_ediv_right _ _ (by omega)] at hd
      have vz : a = 0 → a * (k + c - 1) / c = 0 := by rintro rfl; simp
      generalize a * (k + c - 1) / c = v at *
      generalize b * (k + 1 + c - 1) / c = v' at *
      rcases Int.lt_or_le 1000000000000 v with h5 | h5
      · refine Or.inr ⟨?_, cutOff_of_gt h5, cutOff_of_gt (by omega)⟩
        rcases Int.lt_or_le 0 k with h6 | h6
        · omega
        · have := vz (az (by omega))
          omega
      · left
        rw [cutOff_of_le h5]
        unfold cutOff
        split <;> omega
    · exact Or.inr ⟨h1, sx_stay k h1 _ h2, sx_stay (k + 1) (by omega) _ h3⟩
theorem sx_mono (k : Int) (hk : 0 ≤ k) (d i : Nat) (h : k + d ≤ 2000) : sx k (i + 1) ≤ sx (k + d) (i + 1) := by
  induction d with
  | zero => simp
  | succ d ih =>
    have h1 := ih (by omega)
    have h2 := sx_step (k + d) (by omega) (by omega) i
    have e : k + ((d + 1 : Nat) : Int) = k + d + 1 := by omega
    rw [e]
    omega
theorem sx_le_of (a b : Int) (ha : 0 ≤ a) (h : a ≤ b) (hb : b ≤ 2000) (i : Nat) : sx a (i + 1) ≤ sx b (i + 1) := by
  have := sx_mono a ha (b - a).toNat i (by omega)
  rwa [show a + ((b - a).toNat : Int) = b from by omega] at this
theorem sx_lt_of (a b : Int) (ha : 0 ≤ a) (h : a < b) (hb : b ≤ 2000) (i : Nat) (hn : sx b (i + 1) ≤ 1000000000000) : sx a (i + 1) < sx b (i + 1) := by
  have h1 := sx_step a ha (by omega) i
  have h2 := sx_le_of (a + 1) b (by omega) (by omega) hb i
  omega
/-- The greatest k up to m whose simplex of dimension i + 1 is no greater than n. -/
def sl (i : Nat) (n : Int) : Nat → Nat
  | 0 => 0
  | m + 1 => if sx ((m : Int) + 1) (i + 1) ≤ n then m + 1 else sl i n m
theorem sl_is (i : Nat) (n : Int) (m : Nat) (hm : m ≤ 2000) : sl i n m ≤ m ∧ ∀ k : Nat, 1 ≤ k → k ≤ m → (sx k (i + 1) ≤ n ↔ k ≤ sl i n m) := by
  induction m with
  | zero => exact ⟨by simp [sl], fun k h1 h2 => by omega⟩
  | succ m ih =>
    obtain ⟨h1, h2⟩ := ih (by omega)
    rw [sl]
    by_cases h : sx ((m : Int) + 1) (i + 1) ≤ n
    · rw [if_pos h]
      refine ⟨by omega, fun k h3 h4 => ⟨fun _ => h4, fun _ => ?_⟩⟩
      have := sx_le_of k ((m : Int) + 1) (by omega) (by omega) (by omega) i
      omega
    · rw [if_neg h]
      refine ⟨by omega, fun k h3 h4 => ?_⟩
      rcases Nat.lt_or_ge k (m + 1) with h5 | h5
      · exact h2 k h3 (by omega)
      · have e : k = m + 1 := by omega
        subst e
        constructor
        · intro h6; exact absurd (by simpa using h6) h
        · intro h6; omega
/-- Where a simplex has n, the greatest one that fits is the first one. -/
theorem sl_first (i : Nat) (n : Int) (hn : 0 ≤ n) (h1 : n ≤ 1000000000000) (k : Nat) (hk : k ≤ 2000) (h : sx k (i + 1) = n) : k = sl i n 2000 := by
  obtain ⟨h2, h3⟩ := sl_is i n 2000 (by omega)
  rcases Nat.lt_or_ge (sl i n 2000) k with h4 | h4
  · have := (h3 k (by omega) hk).1 (by omega)
    omega
  · rcases Nat.lt_or_ge k (sl i n 2000) with h5 | h5
    · have h6 := (h3 (sl i n 2000) (by omega) h2).2 (Nat.le_refl _)
      have h7 := sx_lt_of k (sl i n 2000) (by omega) (by omega) (by omega) i (by omega)
      omega
    · omega
end Go.Proofs.YtjfkeflmbgfhmaaGreatDoor
