/- Plain facts of chapter 8: ways to choose, values of forms, rows of differences. No program in sight. -/
namespace Go.Proofs.Ytmjgjdebcmbjeaa

/-- The number of ways to choose k of n things. -/
def chs : Nat → Nat → Nat
  | _, 0 => 1
  | 0, _ + 1 => 0
  | n + 1, k + 1 => chs n k + chs n (k + 1)
theorem chs_zero (n : Nat) : chs n 0 = 1 := by cases n <;> rfl
theorem chs_succ (n k : Nat) : chs (n + 1) (k + 1) = chs n k + chs n (k + 1) := rfl
theorem chs_none : ∀ (n k : Nat), n < k → chs n k = 0
  | _, 0, h => by omega
  | 0, _ + 1, _ => rfl
  | n + 1, k + 1, h => by rw [chs_succ, chs_none n k (by omega), chs_none n (k + 1) (by omega)]
theorem chs_all : ∀ n : Nat, chs n n = 1
  | 0 => rfl
  | n + 1 => by rw [chs_succ, chs_all n, chs_none n (n + 1) (by omega)]
theorem chs_mul : ∀ (n k : Nat), chs n (k + 1) * (k + 1) = chs n k * (n - k)
  | 0, k => by rw [Nat.zero_sub, Nat.mul_zero]; show 0 * _ = 0; rw [Nat.zero_mul]
  | n + 1, 0 => by
    have h := chs_mul n 0
    rw [chs_succ, chs_zero, chs_zero]
    rw [chs_zero] at h
    omega
  | n + 1, k + 1 => by
    have h1 := chs_mul n (k + 1)
    have h2 := chs_mul n k
    rw [chs_succ n (k + 1), chs_succ n k, Nat.add_mul, Nat.add_mul, h1]
    rcases Nat.lt_or_ge k n with hk | hk
    · have e1 : n + 1 - (k + 1) = n - k := by omega
      obtain ⟨m, hm⟩ : ∃ m, n - k = m + 1 := ⟨n - k - 1, by omega⟩
      have e2 : n - (k + 1) = m := by omega
      rw [e1, ← h2, e2, hm]
      rw [← Nat.mul_add, ← Nat.mul_add]
      congr 1
      omega
    · rw [chs_none n (k + 1) (by omega)]
      have e : n + 1 - (k + 1) = 0 := by omega
      rw [e]
      simp
theorem chs_symm : ∀ (n k : Nat), k ≤ n → chs n (n - k) = chs n k
  | n, 0, _ => by rw [Nat.sub_zero, chs_all, chs_zero]
  | 0, k + 1, h => by omega
  | n + 1, k + 1, h => by
    rcases Nat.lt_or_ge k n with hk | hk
    · obtain ⟨m, hm⟩ : ∃ m, n + 1 - (k + 1) = m + 1 := ⟨n - k - 1, by omega⟩
      have a := chs_symm n k (by omega)
      have b := chs_symm n (k + 1) (by omega)
      rw [show n - k = m + 1 by omega] at a
      rw [show n - (k + 1) = m by omega] at b
      rw [hm, chs_succ, chs_succ, a, b, Nat.add_comm]
    · obtain rfl : k = n := by omega
      rw [show k + 1 - (k + 1) = 0 by omega, chs_zero, chs_all]
/-- The loop that reckons it: after i steps. -/
theorem chs_step (n i : Nat) : chs n i * (n - i) / (i + 1) = chs n (i + 1) := by
  rw [← chs_mul]
  exact Nat.mul_div_cancel _ (by omega)
theorem chs_le : ∀ (n k : Nat), chs n k ≤ 2 ^ n
  | _, 0 => by rw [chs_zero]; exact Nat.one_le_two_pow
  | 0, _ + 1 => Nat.zero_le _
  | n + 1, k + 1 => by
    have a := chs_le n k
    have b := chs_le n (k + 1)
    rw [chs_succ, Nat.pow_succ]
    omega

/-- One step of a row: each number and the one behind it together. -/
def stp8 : List Int → List Int
  | a :: b :: l => (a + b) :: stp8 (b :: l)
  | l => l
/-- The value of a form at n. -/
def val8 : List Int → Nat → Int
  | f, 0 => f.headD 0
  | f, n + 1 => val8 (stp8 f) n
/-- The sum of a form's numbers times the ways to choose. -/
def sum8 (f : List Int) (n i : Nat) : Int :=
  match f with
  | [] => 0
  | a :: l => a * (chs n i : Int) + sum8 l n (i + 1)
theorem sum8_none (n : Nat) : ∀ (f : List Int) (i : Nat), n < i → sum8 f n i = 0
  | [], _, _ => rfl
  | a :: l, i, h => by
    rw [sum8, chs_none n i h, sum8_none n l (i + 1) (by omega)]
    simp
theorem sum8_step (n : Nat) : ∀ (l : List Int) (a : Int) (i : Nat), sum8 (stp8 (a :: l)) n (i + 1) + a * (chs n i : Int) = sum8 (a :: l) (n + 1) (i + 1)
  | [], a, i => by
    simp only [stp8, sum8, chs_succ]
    rw [Int.natCast_add, Int.mul_add]
    omega
  | b :: l, a, i => by
    have h := sum8_step n l b (i + 1)
    simp only [stp8, sum8, chs_succ] at h ⊢
    rw [Int.natCast_add, Int.mul_add, Int.add_mul]
    omega
theorem val8_sum : ∀ (n : Nat) (f : List Int), val8 f n = sum8 f n 0
  | 0, [] => rfl
  | 0, a :: l => by
    rw [val8, sum8, sum8_none 0 l 1 (by omega), chs_zero]
    simp
  | n + 1, [] => by rw [val8]; exact val8_sum n []
  | n + 1, [a] => by
    rw [val8]
    show val8 [a] n = _
    rw [val8_sum n [a]]
    simp [sum8, chs_zero]
  | n + 1, a :: b :: l => by
    rw [val8, val8_sum n]
    have h := sum8_step n l b 0
    simp only [stp8, sum8, chs_zero] at h ⊢
    rw [Int.add_mul]
    simp only [Int.mul_one, Int.natCast_one, chs_succ, chs_zero] at h ⊢
    omega

/-- The differences of a row. -/
def dif8 : List Int → List Int
  | a :: b :: l => (b - a) :: dif8 (b :: l)
  | _ => []
theorem dif8_len : ∀ l : List Int, (dif8 l).length = l.length - 1
  | [] => rfl
  | [_] => rfl
  | a :: b :: l => by
    rw [dif8, List.length_cons, dif8_len (b :: l)]
    simp
theorem dif8_at : ∀ (l : List Int) (i : Nat), i + 1 < l.length → (dif8 l).getD i 0 = l.getD (i + 1) 0 - l.getD i 0
  | [], i, h => by simp at h
  | [_], i, h => by simp at h
  | a :: b :: l, 0, _ => rfl
  | a :: b :: l, i + 1, h => by
    have := dif8_at (b :: l) i (by simp at h ⊢; omega)
    simpa [dif8] using this
end Go.Proofs.Ytmjgjdebcmbjeaa
