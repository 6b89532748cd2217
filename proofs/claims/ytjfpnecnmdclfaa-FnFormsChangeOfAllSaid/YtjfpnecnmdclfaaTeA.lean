/- Plain facts of chapter 8: values of forms far out, and in two parts. No program in sight. -/
import Derived.Test.YtjfpnecnmdclfaaMb
namespace Go.Proofs.Ytjfpnecnmdclfaa

theorem chs_up8 (n k : Nat) : chs n k ≤ chs (n + 1) k := by
  cases k with
  | zero => rw [chs_zero, chs_zero]; exact Nat.le_refl _
  | succ k => rw [chs_succ]; omega
theorem chs_mono8 {n m : Nat} (h : n ≤ m) (k : Nat) : chs n k ≤ chs m k := by
  induction h with
  | refl => exact Nat.le_refl _
  | step _ ih => exact Nat.le_trans ih (chs_up8 _ _)
/-- The ways to choose of 1000, reckoned one by one. -/
def t1k : Nat → Nat
  | 0 => 1
  | i + 1 => t1k i * (1000 - i) / (i + 1)
theorem t1k_eq : ∀ i, chs 1000 i = t1k i
  | 0 => chs_zero 1000
  | i + 1 => by rw [t1k, ← t1k_eq i, chs_step]
theorem t1k_small : ∀ i, i < 12 → t1k i ≤ 100000000000000000000000000 := by decide
theorem chs_1k {n i : Nat} (hn : n ≤ 1000) (hi : i < 12) : chs n i ≤ 100000000000000000000000000 := by
  refine Nat.le_trans (chs_mono8 hn i) ?_
  rw [t1k_eq]
  exact t1k_small i hi
theorem its8_pas (f : Nat → Int) (n : Nat) : its8 false f (n + 1) = its8 false (fun k => f (k + 1)) n + its8 false f n := by
  have e : psum false f n (n + 1 + 1) = psum false f n (n + 1) := by
    rw [psum, chs_none n (n + 1) (by omega)]
    simp
  have h1 : sg8 false 1 = 1 := rfl
  rw [its8_sum, its8_sum, its8_sum, psum_step, e, h1]
  omega
theorem itr_at (xs : List Int) : ∀ (m j : Nat), (itr8 stp8 m xs).getD j 0 = its8 false (fun k => xs.getD (j + k) 0) m
  | 0, j => by rw [itr8, its8]; rfl
  | m + 1, j => by
    rw [itr8, stp8_at, itr_at xs m j, itr_at xs m (j + 1), its8_pas]
    have e : (fun k => xs.getD (j + 1 + k) 0) = (fun k => xs.getD (j + (k + 1)) 0) := by
      funext k
      rw [show j + 1 + k = j + (k + 1) by omega]
    rw [e]
    omega
theorem its_len8 (xs : List Int) : ∀ m, (itr8 stp8 m xs).length = xs.length
  | 0 => rfl
  | m + 1 => by rw [itr8, stp8_len, its_len8 xs m]
theorem psum_far (f : Nat → Int) (n : Nat) (hn : n ≤ 1000) (hf : ∀ k, -1000000 ≤ f k ∧ f k ≤ 1000000) (h0 : ∀ k, 12 ≤ k → f k = 0) : ∀ j : Nat,
    -((if j ≤ 12 then (j : Int) else 12) * 100000000000000000000000000000000) ≤ psum false f n j ∧ psum false f n j ≤ (if j ≤ 12 then (j : Int) else 12) * 100000000000000000000000000000000
  | 0 => by simp [psum]
  | j + 1 => by
    have ih := psum_far f n hn hf h0 j
    have h1 : sg8 false (n + j) = 1 := by simp [sg8]
    rw [psum, h1, Int.one_mul]
    by_cases hj : j < 12
    · have hc := chs_1k hn hj
      have hb := hf j
      have g0 : (0 : Int) ≤ (chs n j : Int) := by omega
      have a := Int.mul_le_mul_of_nonneg_left hb.2 g0
      have b := Int.mul_le_mul_of_nonneg_left hb.1 g0
      rw [if_pos (by omega)] at ih
      rw [if_pos (by omega)]
      omega
    · rw [h0 j (by omega), Int.mul_zero, Int.add_zero]
      rw [if_neg (by omega)]
      by_cases h12 : j ≤ 12
      · rw [if_pos h12] at ih
        omega
      · rw [if_neg h12] at ih
        exact ih
/-- No number is greater on the way to the place 1000. -/
theorem itr_bd {xs : List Int} (h : Bd 1000000 xs) (hl : xs.length ≤ 12) (m : Nat) (hm : m ≤ 1000) (j : Nat) : -1200000000000000000000000000000000 ≤ (itr8 stp8 m xs).getD j 0 ∧ (itr8 stp8 m xs).getD j 0 ≤ 1200000000000000000000000000000000 := by
  have hp := psum_far (fun k => xs.getD (j + k) 0) m hm (fun k => h (j + k)) (fun k hk => by
    rw [List.getD_eq_getElem?_getD, List.getElem?_eq_none (by omega)]
    rfl) (m + 1)
  rw [itr_at, its8_sum]
  by_cases h12 : m + 1 ≤ 12
  · rw [if_pos h12] at hp
    omega
  · rw [if_neg h12] at hp
    omega
theorem val_itr (xs : List Int) : ∀ m, val8 xs m = (itr8 stp8 m xs).getD 0 0 := fun m => by
  rw [itr_at, val8_its]
  congr 1
  funext k
  rw [Nat.zero_add]
theorem fst_drop (xs : List Int) (m : Nat) : (fst8 stp8 (m + 1) xs).drop m = [val8 xs m] := by
  rw [fst8_snoc, List.drop_append_of_le_length (by rw [fst8_len]; exact Nat.le_refl _), List.drop_of_length_le (by rw [fst8_len]; exact Nat.le_refl _), val_itr]
  cases itr8 stp8 m xs <;> rfl
/-- The parts of a sum: whole 10^15s and what is over. -/
theorem big_parts (l : Int) (h1 : -2000000000000000 < l) (h2 : l < 2000000000000000) : ∃ q r : Int, l.tdiv 1000000000000000 = q ∧ l.tmod 1000000000000000 = r ∧ -1000000000000000 < r ∧ r < 1000000000000000 ∧ q * 1000000000000000 + r = l ∧ -2 ≤ q ∧ q ≤ 2 := by
  refine ⟨_, _, rfl, rfl, ?_⟩
  rcases Int.le_total 0 l with h | h
  · rw [Int.tdiv_eq_ediv_of_nonneg h, Int.tmod_eq_emod_of_nonneg h]
    omega
  · have e1 : l.tdiv 1000000000000000 = -((-l) / 1000000000000000) := by
      have := Int.neg_tdiv (a := -l) (b := 1000000000000000)
      rw [Int.neg_neg] at this
      rw [this, Int.tdiv_eq_ediv_of_nonneg (by omega)]
    have e2 : l.tmod 1000000000000000 = -((-l) % 1000000000000000) := by
      have := Int.neg_tmod (-l) 1000000000000000
      rw [Int.neg_neg] at this
      rw [this, Int.tmod_eq_emod_of_nonneg (by omega)]
    rw [e1, e2]
    omega
end Go.Proofs.Ytjfpnecnmdclfaa
