/- Chapter 8, by the specification: tables of differences. -/
import Derived.Test.YtjfpnecnmdclfaaTbP
namespace Go.Proofs.Ytjfpnecnmdclfaa
open Go.RowKit

/-- The first k rows of a table. -/
def tbl8 (xs : List Int) (k : Nat) : List (List Int) := (List.range k).map fun i => itr8 dif8 i xs
theorem tbl8_len (xs : List Int) (k : Nat) : (tbl8 xs k).length = k := by simp [tbl8]
theorem tbl8_at (xs : List Int) (k i : Nat) (h : i < k) : rowsOf (tbl8 xs k) i = itr8 dif8 i xs := by
  simp [rowsOf, tbl8, List.getD_eq_getElem?_getD, h]
theorem tbl8_succ (xs : List Int) (k : Nat) : tbl8 xs (k + 1) = tbl8 xs k ++ [itr8 dif8 k xs] := by
  simp [tbl8, List.range_succ]
theorem itd8_len (xs : List Int) : ∀ i, (itr8 dif8 i xs).length = xs.length - i
  | 0 => rfl
  | i + 1 => by rw [itr8, dif8_len, itd8_len xs i]; omega
theorem itd8_bd {xs : List Int} (h : Bd 1000000 xs) : ∀ i, Bd (2 ^ i * 1000000) (itr8 dif8 i xs)
  | 0 => by simpa [itr8] using h
  | i + 1 => by
    have := (itd8_bd h i).dif
    rw [itr8, Int.pow_succ, Int.mul_assoc, Int.mul_comm 2, ← Int.mul_assoc, Int.mul_comm]
    exact this
theorem two12t : ∀ n : Nat, n ≤ 12 → (2 : Int) ^ n * 1000000 ≤ 4096000000 := by decide
def lenV : Value → Nat
  | .slice _ n _ => n
  | _ => 0
theorem rowcap8 {w : World} {base : Nat} {e : TypeId} {size n c : Nat} {A : Option Addr} {cs : List Value} (h : w.ownsRow base e size (.slice A n c) n cs) : n ≤ c := by
  rcases h.2 with ⟨hv, h0⟩ | ⟨g, cap, cur, hv, hg, hh, hnc, _⟩
  · omega
  · injection hv with _ _ h3
    omega
end Go.Proofs.Ytjfpnecnmdclfaa
