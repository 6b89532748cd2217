/- Plain facts of chapter 8: sums with ways to choose, with signs or not, by steps; rows of first numbers; trimmed rows. No program in sight. -/
import Derived.Test.YtmjgjdebcmbjeaaTbM
namespace Go.Proofs.Ytmjgjdebcmbjeaa

/-- The sign of a part: minus where signs are told and the number is odd. -/
def sg8 (b : Bool) (m : Nat) : Int := if b && m % 2 == 1 then -1 else 1
theorem sg8_two (b : Bool) (m : Nat) : sg8 b (m + 2) = sg8 b m := by
  unfold sg8
  rw [show (m + 2) % 2 = m % 2 by omega]
theorem sg8_one (b : Bool) (m : Nat) : sg8 b (m + 1) = sg8 b 1 * sg8 b m := by
  unfold sg8
  cases b with
  | false => simp
  | true =>
    rcases Nat.mod_two_eq_zero_or_one m with h | h
    · have : (m + 1) % 2 = 1 := by omega
      simp [h, this]
    · have : (m + 1) % 2 = 0 := by omega
      simp [h, this]
/-- The sum of the first j numbers, each times the ways to choose its index of n things. -/
def psum (b : Bool) (f : Nat → Int) (n : Nat) : Nat → Int
  | 0 => 0
  | j + 1 => psum b f n j + sg8 b (n + j) * ((chs n j : Int) * f j)
theorem psum_congr (b : Bool) {f g : Nat → Int} (n : Nat) : ∀ j, (∀ k, k < j → f k = g k) → psum b f n j = psum b g n j
  | 0, _ => rfl
  | j + 1, h => by rw [psum, psum, psum_congr b n j (fun k hk => h k (by omega)), h j (by omega)]
/-- Pascal's rule. -/
theorem psum_step (b : Bool) (f : Nat → Int) (n : Nat) : ∀ j, psum b f (n + 1) (j + 1) = psum b (fun k => f (k + 1)) n j + sg8 b 1 * psum b f n (j + 1)
  | 0 => by
    simp only [psum, chs_zero]
    rw [show n + 1 + 0 = (n + 0) + 1 by omega, sg8_one b (n + 0)]
    simp [Int.mul_assoc]
  | j + 1 => by
    rw [psum, psum_step b f n j]
    conv => rhs; rw [psum, psum]
    rw [chs_succ, show n + 1 + (j + 1) = (n + j) + 2 by omega, sg8_two, show n + (j + 1) = (n + j) + 1 by omega, sg8_one b (n + j)]
    have hs : sg8 b 1 * sg8 b 1 = 1 := by cases b <;> rfl
    generalize sg8 b 1 = s at *
    generalize sg8 b (n + j) = t at *
    generalize psum b (fun k => f (k + 1)) n j = p at *
    generalize psum b f n (j + 1) = q at *
    rw [Int.natCast_add, Int.add_mul, Int.mul_add, Int.mul_add]
    generalize (chs n j : Int) * f (j + 1) = u
    generalize (chs n (j + 1) : Int) * f (j + 1) = v
    have e : s * (s * t * v) = t * v := by rw [← Int.mul_assoc, ← Int.mul_assoc, hs, Int.one_mul]
    rw [e]
    omega
/-- The first number after n steps, in each of which a number becomes the next one and, with the sign, itself. -/
def its8 (b : Bool) : (Nat → Int) → Nat → Int
  | f, 0 => f 0
  | f, n + 1 => its8 b (fun k => f (k + 1) + sg8 b 1 * f k) n
theorem psum_lin (b : Bool) (f g : Nat → Int) (s : Int) (n : Nat) : ∀ j, psum b (fun k => f k + s * g k) n j = psum b f n j + s * psum b g n j
  | 0 => by simp [psum]
  | j + 1 => by
    rw [psum, psum, psum, psum_lin b f g s n j, Int.mul_add, Int.mul_add, Int.mul_add]
    have e : sg8 b (n + j) * ((chs n j : Int) * (s * g j)) = s * (sg8 b (n + j) * ((chs n j : Int) * g j)) := by
      generalize sg8 b (n + j) = t
      generalize (chs n j : Int) = u
      generalize g j = v
      rw [← Int.mul_assoc u s v, Int.mul_comm u s, Int.mul_assoc s u v, ← Int.mul_assoc t s, Int.mul_comm t s, Int.mul_assoc s t]
    rw [e]
    omega
theorem its8_sum (b : Bool) : ∀ (n : Nat) (f : Nat → Int), its8 b f n = psum b f n (n + 1)
  | 0, f => by
    simp only [its8, psum, chs_zero]
    have : sg8 b (0 + 0) = 1 := by cases b <;> rfl
    rw [this]
    simp
  | n + 1, f => by
    have e : psum b f n (n + 1 + 1) = psum b f n (n + 1) := by
      rw [psum, chs_none n (n + 1) (by omega)]
      simp
    rw [its8, its8_sum b n, psum_step, psum_lin, e]
theorem its8_congr (b : Bool) : ∀ (n : Nat) {f g : Nat → Int}, (∀ k, k ≤ n → f k = g k) → its8 b f n = its8 b g n
  | 0, f, g, h => h 0 (by omega)
  | n + 1, f, g, h => by
    rw [its8, its8]
    exact its8_congr b n fun k hk => by rw [h k (by omega), h (k + 1) (by omega)]

theorem stp8_len : ∀ l : List Int, (stp8 l).length = l.length
  | [] => rfl
  | [_] => rfl
  | a :: b :: l => by rw [stp8, List.length_cons, stp8_len (b :: l)]; rfl
theorem stp8_at : ∀ (l : List Int) (i : Nat), (stp8 l).getD i 0 = l.getD i 0 + l.getD (i + 1) 0
  | [], i => by simp [stp8]
  | [a], 0 => by simp [stp8]
  | [a], i + 1 => by simp [stp8]
  | a :: b :: l, 0 => rfl
  | a :: b :: l, i + 1 => by
    have := stp8_at (b :: l) i
    simpa [stp8] using this
theorem val8_its : ∀ (n : Nat) (l : List Int), val8 l n = its8 false (fun k => l.getD k 0) n
  | 0, l => by cases l <;> rfl
  | n + 1, l => by
    rw [val8, its8, val8_its n (stp8 l)]
    refine its8_congr false n fun k _ => ?_
    rw [stp8_at]
    have : sg8 false 1 = 1 := rfl
    rw [this]
    omega
/-- The first number after n steps of differences. -/
def dfn8 : List Int → Nat → Int
  | l, 0 => l.headD 0
  | l, n + 1 => dfn8 (dif8 l) n
theorem dfn8_its : ∀ (n : Nat) (l : List Int), n < l.length → dfn8 l n = its8 true (fun k => l.getD k 0) n
  | 0, l, _ => by cases l <;> rfl
  | n + 1, l, h => by
    rw [dfn8, its8, dfn8_its n (dif8 l) (by rw [dif8_len]; omega)]
    refine its8_congr true n fun k hk => ?_
    rw [dif8_at l k (by omega)]
    have : sg8 true 1 = -1 := rfl
    rw [this]
    omega
/-- The first numbers of so many rows, by a step. -/
def fst8 (step : List Int → List Int) : Nat → List Int → List Int
  | 0, _ => []
  | c + 1, l => l.headD 0 :: fst8 step c (step l)
theorem fst8_len (step : List Int → List Int) : ∀ (c : Nat) (l : List Int), (fst8 step c l).length = c
  | 0, _ => rfl
  | c + 1, l => by rw [fst8, List.length_cons, fst8_len step c]
theorem fst8_val : ∀ (c : Nat) (l : List Int) (i : Nat), i < c → (fst8 stp8 c l).getD i 0 = val8 l i
  | c + 1, l, 0, _ => by rw [fst8, val8]; rfl
  | c + 1, l, i + 1, h => by
    rw [fst8, val8, List.getD_cons_succ]
    exact fst8_val c _ i (by omega)
theorem fst8_dfn : ∀ (c : Nat) (l : List Int) (i : Nat), i < c → (fst8 dif8 c l).getD i 0 = dfn8 l i
  | c + 1, l, 0, _ => by rw [fst8, dfn8]; rfl
  | c + 1, l, i + 1, h => by
    rw [fst8, dfn8, List.getD_cons_succ]
    exact fst8_dfn c _ i (by omega)
/-- the row and its first numbers after i steps, by one step more at the end -/
def itr8 (step : List Int → List Int) : Nat → List Int → List Int
  | 0, l => l
  | c + 1, l => step (itr8 step c l)
theorem itr8_in (step : List Int → List Int) : ∀ (c : Nat) (l : List Int), itr8 step c (step l) = itr8 step (c + 1) l
  | 0, _ => rfl
  | c + 1, l => by rw [itr8, itr8_in step c l]; rfl
theorem fst8_snoc (step : List Int → List Int) : ∀ (c : Nat) (l : List Int), fst8 step (c + 1) l = fst8 step c l ++ [(itr8 step c l).headD 0]
  | 0, l => rfl
  | c + 1, l => by
    rw [fst8, fst8_snoc step c (step l), itr8_in]
    rfl
/-- How many numbers there are up to the last one that is not 0. -/
def tln8 (l : List Int) : Nat → Nat
  | 0 => 0
  | n + 1 => if l.getD n 0 = 0 then tln8 l n else n + 1
theorem tln8_le (l : List Int) : ∀ n, tln8 l n ≤ n
  | 0 => Nat.le_refl _
  | n + 1 => by
    rw [tln8]
    have := tln8_le l n
    split <;> omega
theorem tln8_last (l : List Int) : ∀ n, 0 < tln8 l n → l.getD (tln8 l n - 1) 0 ≠ 0
  | 0, h => by simp [tln8] at h
  | n + 1, h => by
    rw [tln8] at h ⊢
    split at h
    · rename_i h0
      rw [if_pos h0]
      exact tln8_last l n h
    · rename_i h0
      rw [if_neg h0]
      exact h0
/-- Numbers up to the last one that is not 0. -/
def trm8 (l : List Int) : List Int := l.take (tln8 l l.length)
theorem trm8_len (l : List Int) : (trm8 l).length = tln8 l l.length := by
  rw [trm8, List.length_take]
  have := tln8_le l l.length
  omega
theorem trm8_last (l : List Int) (h : 0 < (trm8 l).length) : (trm8 l).getD ((trm8 l).length - 1) 0 ≠ 0 := by
  rw [trm8_len] at h ⊢
  have h1 := tln8_last l l.length h
  have e : (trm8 l).getD (tln8 l l.length - 1) 0 = l.getD (tln8 l l.length - 1) 0 := by
    simp only [List.getD_eq_getElem?_getD, trm8]
    rw [List.getElem?_take_of_lt (by omega)]
  rw [e]
  exact h1
theorem trm8_id (l : List Int) (h : 0 < l.length → l.getD (l.length - 1) 0 ≠ 0) : trm8 l = l := by
  cases hl : l.length with
  | zero => rw [trm8, hl, tln8]; exact (List.take_of_length_le (by omega))
  | succ n =>
    have h1 := h (by omega)
    rw [hl, Nat.add_sub_cancel] at h1
    rw [trm8, hl, tln8, if_neg h1]
    exact List.take_of_length_le (by omega)
end Go.Proofs.Ytmjgjdebcmbjeaa
