/- Forms change: what holds of sums, of what lies behind, of places times, of transforms and of ways to choose. No program in sight. -/
import Derived.Test.YtjfpnecnmdclfaaMe
import Derived.Test.YtjfpnecnmdclfaaTeA
namespace Go.Proofs.Ytjfpnecnmdclfaa
open Go.ChangeShapes Go.WideShapes Go.ChangeAt Go.RowKit

theorem its8_lin (b : Bool) (f g : Nat → Int) (s : Int) (n : Nat) : its8 b (fun k => f k + s * g k) n = its8 b f n + s * its8 b g n := by
  rw [its8_sum, its8_sum, its8_sum]
  exact psum_lin b f g s n (n + 1)
theorem its8_step (b : Bool) (f : Nat → Int) (n : Nat) : its8 b f (n + 1) = its8 b (fun k => f (k + 1)) n + sg8 b 1 * its8 b f n := by
  rw [its8]
  exact its8_lin b (fun k => f (k + 1)) f (sg8 b 1) n
theorem sg8_t : sg8 true 1 = -1 := by decide
theorem sg8_f : sg8 false 1 = 1 := by decide
theorem inv8_uf (n : Nat) : ∀ f : Nat → Int, its8 true (fun k => its8 false f k) n = f n := by
  induction n with
  | zero => intro f; rfl
  | succ n ih =>
    intro f
    rw [its8, ← ih fun k => f (k + 1)]
    refine its8_congr true n fun k _ => ?_
    show its8 false f (k + 1) + sg8 true 1 * its8 false f k = _
    rw [its8_step false f k, sg8_t, sg8_f]
    omega
theorem inv8_fu (n : Nat) : ∀ f : Nat → Int, its8 false (fun k => its8 true f k) n = f n := by
  induction n with
  | zero => intro f; rfl
  | succ n ih =>
    intro f
    rw [its8, ← ih fun k => f (k + 1)]
    refine its8_congr false n fun k _ => ?_
    show its8 true f (k + 1) + sg8 false 1 * its8 true f k = _
    rw [its8_step true f k, sg8_t, sg8_f]
    omega
theorem ext8 {xs ys : List Int} (hl : xs.length = ys.length) (h : ∀ k, k < ys.length → xs.getD k 0 = ys.getD k 0) : xs = ys := by
  refine List.ext_getElem hl fun k h1 h2 => ?_
  have := h k h2
  simp only [List.getD_eq_getElem?_getD, List.getElem?_eq_getElem h1, List.getElem?_eq_getElem h2, Option.getD_some] at this
  exact this
/-- A transform undone, and an undone one transformed, is the list. -/
theorem undo_of (n : Nat) (xs : List Int) (hn : xs.length = n) : fst8 dif8 n (fst8 stp8 n xs) = xs := by
  refine ext8 (by rw [fst8_len, hn]) fun k hk => ?_
  rw [hn] at hk
  rw [fst8_dfn n _ k hk, dfn8_its k _ (by rw [fst8_len]; exact hk), ← inv8_uf k fun k => xs.getD k 0]
  refine its8_congr true k fun j hj => ?_
  rw [fst8_val n xs j (by omega), val8_its]
theorem of_undo (n : Nat) (xs : List Int) (hn : xs.length = n) : fst8 stp8 n (fst8 dif8 n xs) = xs := by
  refine ext8 (by rw [fst8_len, hn]) fun k hk => ?_
  rw [hn] at hk
  rw [fst8_val n _ k hk, val8_its, ← inv8_fu k fun k => xs.getD k 0]
  refine its8_congr false k fun j hj => ?_
  rw [fst8_dfn n xs j (by omega), dfn8_its j xs (by omega)]
theorem tln8_above (l : List Int) : ∀ n i, tln8 l n ≤ i → i < n → l.getD i 0 = 0
  | 0, i, _, h => by omega
  | n + 1, i, h1, h2 => by
    rw [tln8] at h1
    split at h1
    · rename_i e
      rcases Nat.lt_or_ge i n with h3 | h3
      · exact tln8_above l n i h1 h3
      · obtain rfl : i = n := by omega
        exact e
    · omega
theorem trm8_at (l : List Int) (i : Nat) : (trm8 l).getD i 0 = l.getD i 0 := by
  rcases Nat.lt_or_ge i (tln8 l l.length) with h | h
  · rw [trm8, List.getD_eq_getElem?_getD, List.getElem?_take_of_lt h, ← List.getD_eq_getElem?_getD]
  · have h1 : (trm8 l).getD i 0 = 0 := by
      rw [List.getD_eq_getElem?_getD, List.getElem?_eq_none (by rw [trm8_len]; exact h)]
      rfl
    rw [h1]
    rcases Nat.lt_or_ge i l.length with h2 | h2
    · exact (tln8_above l l.length i h h2).symm
    · rw [List.getD_eq_getElem?_getD, List.getElem?_eq_none h2]
      rfl
theorem val8_same {l m : List Int} (h : ∀ k, l.getD k 0 = m.getD k 0) (n : Nat) : val8 l n = val8 m n := by
  rw [val8_its, val8_its]
  exact its8_congr false n fun k _ => h k
theorem val8_trm (l : List Int) (n : Nat) : val8 (trm8 l) n = val8 l n := val8_same (trm8_at l) n
theorem val8_pas (a : Int) (l : List Int) (n : Nat) : val8 (a :: l) (n + 1) = val8 l n + val8 (a :: l) n := by
  rw [val8_its, val8_its, val8_its, its8_step, sg8_f, Int.one_mul]
  rfl
/-- The values' sum ahead of a place is the value of the form of sums. -/
theorem val8_sums (xs : List Int) (n : Nat) : val8 (0 :: xs) (n + 1) = val8 (0 :: xs) n + val8 xs n := by
  rw [val8_pas]
  omega
theorem val8_nil (n : Nat) : val8 [] n = 0 := by
  induction n with
  | zero => rfl
  | succ n ih => rw [val8]; exact ih
theorem val8_one (t : Int) (n : Nat) : val8 [t] n = t := by
  induction n with
  | zero => rfl
  | succ n ih => rw [val8_pas, ih, val8_nil]; omega
theorem val8_two (t : Int) (n : Nat) : val8 [1, t] n = 1 + t * (n : Int) := by
  induction n with
  | zero => simp [val8]
  | succ n ih =>
    rw [val8_pas, ih, val8_one]
    have : t * ((n + 1 : Nat) : Int) = t * (n : Int) + t := by
      rw [show ((n + 1 : Nat) : Int) = (n : Int) + 1 from by omega, Int.mul_add, Int.mul_one]
    omega
theorem val8_shape (s : Int) (n : Nat) : val8 [0, 1, s - 2] n = num s (n : Int) := by
  induction n with
  | zero => simp [val8, num_zero]
  | succ n ih =>
    rw [val8_sums, ih, val8_two]
    have := num_succ s (n : Int)
    rw [show ((n + 1 : Nat) : Int) = (n : Int) + 1 from by omega]
    omega
/-- Places times values. -/
def prv (f : Nat → Int) (j : Nat) : Int := if j = 0 then 0 else f (j - 1)
theorem its8_times (n : Nat) : ∀ f : Nat → Int, its8 false (fun j => (j : Int) * (prv f j + f j)) n = (n : Int) * its8 false f n := by
  induction n with
  | zero => intro f; simp [its8]
  | succ n ih =>
    intro f
    rw [its8_step, sg8_f, Int.one_mul, ih f]
    have e : its8 false (fun k => (fun j : Nat => (j : Int) * (prv f j + f j)) (k + 1)) n = its8 false (fun j : Nat => (j : Int) * (prv (fun k => f (k + 1)) j + f (j + 1))) n + (its8 false (fun k => f (k + 1)) n + its8 false f n) := by
      have h1 := its8_lin false (fun j : Nat => (j : Int) * (prv (fun k => f (k + 1)) j + f (j + 1))) (fun k => f (k + 1) + 1 * f k) 1 n
      have h2 := its8_lin false (fun k => f (k + 1)) f 1 n
      rw [h2] at h1
      have h3 : its8 false (fun k => (fun j : Nat => (j : Int) * (prv f j + f j)) (k + 1)) n = its8 false (fun k : Nat => (k : Int) * (prv (fun k => f (k + 1)) k + f (k + 1)) + 1 * (f (k + 1) + 1 * f k)) n := by
        refine its8_congr false n fun k _ => ?_
        show ((k + 1 : Nat) : Int) * (prv f (k + 1) + f (k + 1)) = _
        have e1 : prv f (k + 1) = f k := by simp [prv]
        have e2 : (k : Int) * (prv (fun k => f (k + 1)) k + f (k + 1)) = (k : Int) * (f k + f (k + 1)) := by
          cases k with
          | zero => simp
          | succ k => simp [prv]
        rw [e1, e2, show ((k + 1 : Nat) : Int) = (k : Int) + 1 from by omega, Int.add_mul]
        omega
      rw [h3, h1]
      omega
    rw [e, ih fun k => f (k + 1), its8_step false f n, sg8_f, Int.one_mul]
    generalize its8 false (fun k => f (k + 1)) n = x
    generalize its8 false f n = y
    rw [show ((n + 1 : Nat) : Int) = (n : Int) + 1 from by omega, Int.mul_add, Int.add_mul, Int.add_mul]
    omega
theorem far8 {l : List Int} {i : Nat} (h : l.length ≤ i) : l.getD i 0 = 0 := by
  rw [List.getD_eq_getElem?_getD, List.getElem?_eq_none h]
  rfl
theorem tms8_at (xs : List Int) (j : Nat) : (tms8 xs).getD j 0 = (j : Int) * (prv (fun k => xs.getD k 0) j + xs.getD j 0) := by
  have hp : prv (fun k => xs.getD k 0) j = prv8 xs j := rfl
  rw [hp]
  rcases Nat.lt_or_ge j (xs.length + 1) with h | h
  · have e : (tms8 xs).getD j 0 = tm8 xs xs.length j := by
      rw [tms8]
      simp [tab, List.getD_eq_getElem?_getD, h]
    rw [e, tm8]
    split
    · rfl
    · rw [if_pos (by omega), far8 (show xs.length ≤ j by omega), Int.add_zero]
  · rw [far8 (by rw [tms8_len]; exact h), far8 (show xs.length ≤ j by omega)]
    have : prv8 xs j = 0 := by
      rw [prv8]
      split
      · rfl
      · exact far8 (by omega)
    rw [this]
    simp
theorem val8_times (xs : List Int) (n : Nat) : val8 (tms8 xs) n = (n : Int) * val8 xs n := by
  rw [val8_its, val8_its, ← its8_times]
  exact its8_congr false n fun j _ => tms8_at xs j
theorem val8_bd (n : Nat) : ∀ (M : Int) (xs : List Int), Bd M xs → -(2 ^ n * M) ≤ val8 xs n ∧ val8 xs n ≤ 2 ^ n * M := by
  induction n with
  | zero =>
    intro M xs h
    have := h.head
    simp only [val8, Int.pow_zero, Int.one_mul]
    exact this
  | succ n ih =>
    intro M xs h
    have h1 := ih (2 * M) (stp8 xs) h.stp
    have e : (2 : Int) ^ n * (2 * M) = 2 ^ (n + 1) * M := by rw [Int.pow_succ, Int.mul_assoc]
    rw [e] at h1
    exact h1
theorem two6 : ∀ n : Nat, n ≤ 8 → (2 : Int) ^ n * 1000000 ≤ 256000000 := by decide
/-- Values of forms at the first places are small. -/
theorem val8_small {xs : List Int} (h : Bd 1000000 xs) {n : Nat} (hn : n ≤ 8) : -256000000 ≤ val8 xs n ∧ val8 xs n ≤ 256000000 := by
  have h1 := val8_bd n 1000000 xs h
  have h2 := two6 n hn
  omega
theorem mt8_all {s p : Int} {xs : List Int} : ∀ {n : Nat}, mt8 s p xs n = true → ∀ k, k < n → num s (p + (k : Int)) = xs.getD k 0
  | 0, _, k, hk => by omega
  | n + 1, h, k, hk => by
    simp only [mt8, Bool.and_eq_true, beq_iff_eq] at h
    rcases Nat.lt_or_ge k n with h1 | h1
    · exact mt8_all h.1 k h1
    · obtain rfl : k = n := by omega
      exact h.2
end Go.Proofs.Ytjfpnecnmdclfaa
