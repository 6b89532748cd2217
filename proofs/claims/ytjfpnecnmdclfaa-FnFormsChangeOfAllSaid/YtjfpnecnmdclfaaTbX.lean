/- Plain facts of chapter 8: transforms of lists by sums with ways to choose. -/
import Derived.Test.YtjfpnecnmdclfaaMb
import Derived.Test.YtjfpnecnmdclfaaMa
namespace Go.Proofs.Ytjfpnecnmdclfaa

theorem sg8_bds (b : Bool) (m : Nat) : sg8 b m = 1 ∨ sg8 b m = -1 := by
  unfold sg8
  split
  · exact .inr rfl
  · exact .inl rfl
theorem term_bd (n k : Nat) (hn : n ≤ 12) (x : Int) (h1 : -1000000 ≤ x) (h2 : x ≤ 1000000) : -4096000000 ≤ (chs n k : Int) * x ∧ (chs n k : Int) * x ≤ 4096000000 := by
  have hc : chs n k ≤ 4096 := Nat.le_trans (chs_le n k) (Nat.le_trans (Nat.pow_le_pow_right (by omega) hn) (by decide))
  have h0 : (0 : Int) ≤ (chs n k : Int) := by omega
  have a := Int.mul_le_mul_of_nonneg_left h2 h0
  have b := Int.mul_le_mul_of_nonneg_left h1 h0
  omega
theorem psum_bd (b : Bool) (xs : List Int) (n : Nat) (hn : n ≤ 12) (h : Bd 1000000 xs) : ∀ j : Nat, -((j : Int) * 4096000000) ≤ psum b (fun k => xs.getD k 0) n j ∧ psum b (fun k => xs.getD k 0) n j ≤ (j : Int) * 4096000000
  | 0 => by simp [psum]
  | j + 1 => by
    have hr := psum_bd b xs n hn h j
    have ht := term_bd n j hn _ (h j).1 (h j).2
    rw [psum]
    rcases sg8_bds b (n + j) with e | e
    · rw [e]
      omega
    · rw [e]
      omega
/-- The number of a transform at an index. -/
def trn8 (b : Bool) (xs : List Int) (n : Nat) : Int := psum b (fun k => xs.getD k 0) n (n + 1)
theorem trn8_stp (xs : List Int) (n : Nat) : tab (trn8 false xs) n = fst8 stp8 n xs := by
  apply List.ext_getElem?
  intro i
  by_cases hi : i < n
  · rw [tab_get _ _ _ hi]
    have h1 := fst8_val n xs i hi
    have h2 : i < (fst8 stp8 n xs).length := by rw [fst8_len]; exact hi
    rw [List.getElem?_eq_getElem h2]
    rw [List.getD_eq_getElem?_getD, List.getElem?_eq_getElem h2, Option.getD_some] at h1
    rw [h1, val8_its, its8_sum, trn8]
  · rw [List.getElem?_eq_none (by rw [tab_len]; omega), List.getElem?_eq_none (by rw [fst8_len]; omega)]
theorem trn8_dif (xs : List Int) : tab (trn8 true xs) xs.length = fst8 dif8 xs.length xs := by
  apply List.ext_getElem?
  intro i
  by_cases hi : i < xs.length
  · rw [tab_get _ _ _ hi]
    have h1 := fst8_dfn xs.length xs i hi
    have h2 : i < (fst8 dif8 xs.length xs).length := by rw [fst8_len]; exact hi
    rw [List.getElem?_eq_getElem h2]
    rw [List.getD_eq_getElem?_getD, List.getElem?_eq_getElem h2, Option.getD_some] at h1
    rw [h1, dfn8_its i xs hi, its8_sum, trn8]
  · rw [List.getElem?_eq_none (by rw [tab_len]; omega), List.getElem?_eq_none (by rw [fst8_len]; omega)]
theorem tab_snoc (f : Nat → Int) (k : Nat) : tab f (k + 1) = tab f k ++ [f k] := by simp [tab, List.range_succ]
theorem sg8_off (m : Nat) : sg8 false m = 1 := by simp [sg8]
theorem sg8_odd (m j : Nat) (hj : j ≤ m) (h : (m - j) % 2 = 1) : sg8 true (m + j) = -1 := by
  have : (m + j) % 2 = 1 := by omega
  simp [sg8, this]
theorem sg8_even (m j : Nat) (hj : j ≤ m) (h : (m - j) % 2 = 0) : sg8 true (m + j) = 1 := by
  have : (m + j) % 2 = 0 := by omega
  simp [sg8, this]
end Go.Proofs.Ytjfpnecnmdclfaa
